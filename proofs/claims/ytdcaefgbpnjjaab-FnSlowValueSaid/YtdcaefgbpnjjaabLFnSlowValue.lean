/- FnSlowValue: the walk of the law. -/
import Derived.Test.YtdcaefgbpnjjaabDrawS
import Derived.Test.YtdcaefgbpnjjaabStepsL
import Derived.Test.YtdcaefgbpnjjaabSlowS
import Derived.Test.YtdcaefgbpnjjaabStepI
import Derived.Test.YtdcaefgbpnjjaabFn3
import Derived.Test.YtdcaefgbpnjjaabFn1
namespace Go.Proofs.Ytdcaefgbpnjjaab
open Go.RowKit

set_option maxHeartbeats 4000000 in
theorem fnSlowValue_walk (a : Option Addr) (len cap : Nat) (w : World) (h : By w a len cap) :
    Calls Try.prog 6 #[.slice a len cap] w fun e w' => e = .returned (.bool true) ∧ Below w.heap.size w w' := by
  have hlm : len ≤ 9223372036854775807 := by have := h.1; have := h.2.1; unfold maxLen at this; omega
  by_cases hbig : 1048576 < len
  · clear h
    go_enter Try.func6, Try.ntmps6
    go_wp2_with fail
    go_ret
    exact ⟨rfl, Below.refl _ _⟩
  have k0 := Lib.hid (drawSlowValue_any a len cap w h)
  clear h
  go_enter Try.func6, Try.ntmps6
  go_wp2_with fail
  refine (k0.out).mono ?_
  rintro ee w1 ⟨xs, V, g, n, c, hn, hV0, hV1, rfl, ho, hl, hb0⟩
  have Hn := Lib.hid hn
  clear hn
  have X_0 := Lib.hid (Sl.of_own ho)
  have Ht0 := Lib.hid hb0
  have hws := hb0.size
  clear ho hb0
  rcases T.slowRow_vals xs V with hs | ⟨hs0, hs1⟩
  · have Hs := Lib.hid hs
    clear hs
    have k1 := Lib.hid (impl_SlowValue (some ⟨g, 0, none⟩) n c xs V w1 X_0.out (by omega) (by omega))
    rw [Hs.out] at k1
    go_wp2_with fail
    refine (k1.out).mono ?_
    rintro ee w101 ⟨rfl, hb1⟩
    have Ht1 := Lib.hid (Ht0.out.trans (hb1.mono (by have h1 := Ht0.out.size; omega)))
    have X_1 := Lib.hid (X_0.out.below hb1)
    clear hb1
    have k2 := Lib.hid (spec_SlowValue (some ⟨g, 0, none⟩) n c xs V w101 X_1.out (by omega) (by omega))
    rw [Hs.out] at k2
    go_wp2_with fail
    refine (k2.out).mono ?_
    rintro ee w102 ⟨rfl, hb2⟩
    have Ht2 := Lib.hid (Ht1.out.trans (hb2.mono (by have h1 := Ht1.out.size; omega)))
    have X_2 := Lib.hid (X_1.out.below hb2)
    clear hb2
    have k3 := Lib.hid (alive_any w102)
    go_wp2_with fail
    refine (k3.out).mono ?_
    rintro ee w103 ⟨rfl, hb3⟩
    have Ht3 := Lib.hid (Ht2.out.trans (hb3.mono (by have h1 := Ht2.out.size; omega)))
    have X_3 := Lib.hid (X_2.out.below hb3)
    clear hb3
    go_wp2_with fail
    go_ret
    exact ⟨rfl, Ht3.out⟩
  · have hk := T.slowRow_kind hs0
    have hst := T.slowRow_step hs0
    obtain ⟨sv, hsv⟩ : ∃ x, x = T.slowRow xs V := ⟨_, rfl⟩
    rw [← hsv] at hs0 hs1 hk hst
    obtain ⟨kv, hkv⟩ : ∃ x, x = T.kindRow xs := ⟨_, rfl⟩
    rw [← hkv] at hk hst
    obtain ⟨br, hbr⟩ : ∃ x, x = T.stepRow xs V := ⟨_, rfl⟩
    obtain ⟨bo, hbo⟩ : ∃ x, x = T.stepOk xs V := ⟨_, rfl⟩
    rw [← hbr, ← hbo] at hst
    have hbl : br.length ≤ 1000 := by rw [hbr]; exact T.stepRow_len xs V
    have hub := T.slowRow_vals br V
    obtain ⟨uv, huv⟩ : ∃ x, x = T.slowRow br V := ⟨_, rfl⟩
    rw [← huv] at hst hub
    have hu0 : -1 ≤ uv ∧ uv ≤ 1000000000 := by omega
    have hu1 := hu0.1
    have hu2 := hu0.2
    have Hsv := Lib.hid hsv
    have Hkv := Lib.hid hkv
    have Hbr := Lib.hid hbr
    have Hbo := Lib.hid hbo
    have Huv := Lib.hid huv
    have Hst := Lib.hid hst
    clear hsv hkv hbr hbo huv hst hub hu0
    have k4 := Lib.hid (impl_SlowValue (some ⟨g, 0, none⟩) n c xs V w1 X_0.out (by omega) (by omega))
    rw [← Hsv.out] at k4
    go_wp2_with fail
    refine (k4.out).mono ?_
    rintro ee w104 ⟨rfl, hb4⟩
    have Ht4 := Lib.hid (Ht0.out.trans (hb4.mono (by have h1 := Ht0.out.size; omega)))
    have X_4 := Lib.hid (X_0.out.below hb4)
    clear hb4
    have k5 := Lib.hid (spec_SlowValue (some ⟨g, 0, none⟩) n c xs V w104 X_4.out (by omega) (by omega))
    rw [← Hsv.out] at k5
    go_wp2_with fail
    refine (k5.out).mono ?_
    rintro ee w105 ⟨rfl, hb5⟩
    have Ht5 := Lib.hid (Ht4.out.trans (hb5.mono (by have h1 := Ht4.out.size; omega)))
    have X_5 := Lib.hid (X_4.out.below hb5)
    clear hb5
    have k6 := Lib.hid (impl_OrdStep (some ⟨g, 0, none⟩) n c xs V w105 X_5.out (by omega) (by omega))
    unfold OrdOkPost at k6
    rw [← Hbr.out, ← Hbo.out] at k6
    go_wp2_with fail
    refine (k6.out).mono ?_
    rintro ee w106 ⟨aP, cP, rfl, ho, hb6⟩
    have Ht6 := Lib.hid (Ht5.out.trans (hb6.mono (by have h1 := Ht5.out.size; omega)))
    have X_6 := Lib.hid (X_5.out.below hb6)
    have P_6 := Lib.hid (Sl.of_own ho)
    clear hb6 ho
    have k7 := Lib.hid (impl_SlowValue aP br.length cP br V w106 P_6.out (by omega) (by omega))
    rw [← Huv.out] at k7
    go_wp2_with fail
    refine (k7.out).mono ?_
    rintro ee w107 ⟨rfl, hb7⟩
    have Ht7 := Lib.hid (Ht6.out.trans (hb7.mono (by have h1 := Ht6.out.size; omega)))
    have X_7 := Lib.hid (X_6.out.below hb7)
    have P_7 := Lib.hid (P_6.out.below hb7)
    clear hb7
    have k8 := Lib.hid (impl_OrdKind (some ⟨g, 0, none⟩) n c xs w107 X_7.out)
    rw [← Hkv.out] at k8
    go_wp2_with fail
    refine (k8.out).mono ?_
    rintro ee w108 ⟨rfl, hb8⟩
    have Ht8 := Lib.hid (Ht7.out.trans (hb8.mono (by have h1 := Ht7.out.size; omega)))
    have X_8 := Lib.hid (X_7.out.below hb8)
    have P_8 := Lib.hid (P_7.out.below hb8)
    clear hb8
    rcases hk with ⟨hk0, hsz⟩ | ⟨hk1 | hk1, hs2⟩
    · subst hk0 hsz
      cases bo with
      | false =>
        skip
        go_wp2_with fail
        go_ret
        exact ⟨rfl, Ht8.out⟩
      | true =>
        skip
        go_wp2_with fail
        go_ret
        exact ⟨rfl, Ht8.out⟩
    · have hsb : (sv == 0) = false := by simp; omega
      cases bo with
      | false =>
        subst hk1
        go_wp2_with fail
        go_ret
        exact ⟨rfl, Ht8.out⟩
      | true =>
        have hu := (Hst.out rfl).1 hk1
        subst hk1
        subst hu
        go_wp2_with fail
        go_ret
        exact ⟨rfl, Ht8.out⟩
    · have hsb : (sv == 0) = false := by simp; omega
      cases bo with
      | false =>
        subst hk1
        go_wp2_with fail
        go_ret
        exact ⟨rfl, Ht8.out⟩
      | true =>
        have hu := (Hst.out rfl).2 hk1
        subst hk1
        subst hu
        go_wp2_with fail
        go_ret
        exact ⟨rfl, Ht8.out⟩

end Go.Proofs.Ytdcaefgbpnjjaab

/- FnOrdMost: the walk of the law. -/
import Derived.Test.YtdcaefgbpnjjaabDrawS
import Derived.Test.YtdcaefgbpnjjaabStepsL
import Derived.Test.YtdcaefgbpnjjaabMost
import Derived.Test.YtdcaefgbpnjjaabNatJ
import Derived.Test.YtdcaefgbpnjjaabAddJ
import Derived.Test.YtdcaefgbpnjjaabFn1
namespace Go.Proofs.Ytdcaefgbpnjjaab
open Go.RowKit

set_option maxHeartbeats 4000000 in
theorem fnOrdMost_walk (a : Option Addr) (len cap : Nat) (a2 : Option Addr) (len2 cap2 : Nat) (w : World) (h : By w a len cap) (h2 : By w a2 len2 cap2) :
    Calls Try.prog 7 #[.slice a len cap, .slice a2 len2 cap2] w fun e w' => e = .returned (.bool true) ∧ Below w.heap.size w w' := by
  have hlm : len ≤ 9223372036854775807 := by have := h.1; have := h.2.1; unfold maxLen at this; omega
  have hlm2 : len2 ≤ 9223372036854775807 := by have := h2.1; have := h2.2.1; unfold maxLen at this; omega
  by_cases hbig : 1048576 < len
  · clear h h2
    go_enter Try.func7, Try.ntmps7
    go_wp2_with fail
    go_ret
    exact ⟨rfl, Below.refl _ _⟩
  by_cases hbig2 : 1048576 < len2
  · clear h h2
    go_enter Try.func7, Try.ntmps7
    go_wp2_with fail
    go_ret
    exact ⟨rfl, Below.refl _ _⟩
  have k0 := Lib.hid (drawOrdMost_any a len cap w h)
  have H2 := Lib.hid h2
  clear h h2
  go_enter Try.func7, Try.ntmps7
  go_wp2_with fail
  refine (k0.out).mono ?_
  rintro ee w1 ⟨xs, g, n, c, hn, rfl, ho, hl, hb0⟩
  have Hn := Lib.hid hn
  clear hn
  have X_0 := Lib.hid (Sl.of_own ho)
  have Ht0 := Lib.hid hb0
  have hws := hb0.size
  clear ho hb0
  rcases vld_tf xs with hv | hv
  · have hcase := T.mostRow_cases hv
    have hmn := fun zs => T.mostRow_nat (xs := xs) (zs := zs)
    obtain ⟨hm0, hm9⟩ := T.mostRow_ok hv
    obtain ⟨mv, hmv⟩ : ∃ x, x = T.mostRow xs := ⟨_, rfl⟩
    rw [← hmv] at hcase hmn hm0 hm9
    have Hmv := Lib.hid hmv
    have Hmn := Lib.hid hmn
    have Hcase := Lib.hid hcase
    clear hv hmv hmn hcase
    have k1 := Lib.hid (impl_OrdMost (some ⟨g, 0, none⟩) n c xs w1 X_0.out)
    rw [← Hmv.out] at k1
    go_wp2_with fail
    refine (k1.out).mono ?_
    rintro ee w101 ⟨rfl, hb1⟩
    have Ht1 := Lib.hid (Ht0.out.trans (hb1.mono (by have h1 := Ht0.out.size; omega)))
    have X_1 := Lib.hid (X_0.out.below hb1)
    clear hb1
    have k2 := Lib.hid (spec_OrdMost (some ⟨g, 0, none⟩) n c xs w101 X_1.out)
    rw [← Hmv.out] at k2
    go_wp2_with fail
    refine (k2.out).mono ?_
    rintro ee w102 ⟨rfl, hb2⟩
    have Ht2 := Lib.hid (Ht1.out.trans (hb2.mono (by have h1 := Ht1.out.size; omega)))
    have X_2 := Lib.hid (X_1.out.below hb2)
    clear hb2
    have k3 := Lib.hid (drawOrdMost_any a2 len2 cap2 w102 (H2.out.later Ht2.out))
    go_wp2_with fail
    refine (k3.out).mono ?_
    rintro ee w103 ⟨zs, gz, nz, cz, hnz, rfl, ho, hlz, hb3⟩
    have Ht3 := Lib.hid (Ht2.out.trans (hb3.mono (by have h1 := Ht2.out.size; omega)))
    have X_3 := Lib.hid (X_2.out.below hb3)
    have Z_3 := Lib.hid (Sl.of_own ho)
    clear hb3 ho
    have Hnz := Lib.hid hnz
    clear hnz
    obtain ⟨sr, hsr⟩ : ∃ x, x = T.natRow xs zs := ⟨_, rfl⟩
    have Hsr := Lib.hid hsr
    clear hsr
    obtain ⟨so, hso⟩ : ∃ x, x = T.natOk xs zs := ⟨_, rfl⟩
    have Hso := Lib.hid hso
    clear hso
    have k4 := Lib.hid (impl_OrdNatural (some ⟨g, 0, none⟩) (some ⟨gz, 0, none⟩) n c nz cz xs zs w103 X_3.out Z_3.out)
    unfold OrdOkPost at k4
    rw [← Hsr.out, ← Hso.out] at k4
    go_wp2_with fail
    refine (k4.out).mono ?_
    rintro ee w104 ⟨aS, cS, rfl, ho, hb4⟩
    have Ht4 := Lib.hid (Ht3.out.trans (hb4.mono (by have h1 := Ht3.out.size; omega)))
    have X_4 := Lib.hid (X_3.out.below hb4)
    have Z_4 := Lib.hid (Z_3.out.below hb4)
    have S_4 := Lib.hid (Sl.of_own ho)
    clear hb4 ho
    obtain ⟨hz0, hz9⟩ := T.mostRow_bnd zs
    obtain ⟨zv, hzv⟩ : ∃ x, x = T.mostRow zs := ⟨_, rfl⟩
    rw [← hzv] at hz0 hz9
    have Hzv := Lib.hid hzv
    obtain ⟨ht0, ht9⟩ := T.mostRow_bnd sr
    obtain ⟨tv, htv⟩ : ∃ x, x = T.mostRow sr := ⟨_, rfl⟩
    rw [← htv] at ht0 ht9
    have Htv := Lib.hid htv
    have hle : so = true → tv ≤ mv + zv := fun h => by rw [htv, Hsr.out, hzv]; exact Hmn.out zs (by rw [← Hso.out]; exact h)
    have Hle := Lib.hid hle
    clear hzv htv hle
    rcases Hcase.out with ⟨hx, hm⟩ | ⟨k0', m0, ys, hx, hyl, hm1, hm2⟩
    · subst hm
      have hn1 : n = 1 := by have := Hn.out; rw [hx] at this; exact this
      subst hn1
      clear hx
      cases so with
      | false =>
        skip
        go_wp2_with fail
        go_ret
        exact ⟨rfl, Ht4.out⟩
      | true =>
        have hle := Hle.out rfl
        have hle2 : tv ≤ zv := by omega
        have k5 := Lib.hid (impl_OrdMost aS sr.length cS sr w104 S_4.out)
        rw [← Htv.out] at k5
        go_wp2_with fail
        refine (k5.out).mono ?_
        rintro ee w105 ⟨rfl, hb5⟩
        have Ht5 := Lib.hid (Ht4.out.trans (hb5.mono (by have h1 := Ht4.out.size; omega)))
        have X_5 := Lib.hid (X_4.out.below hb5)
        have Z_5 := Lib.hid (Z_4.out.below hb5)
        have S_5 := Lib.hid (S_4.out.below hb5)
        clear hb5
        have k6 := Lib.hid (impl_OrdMost (some ⟨gz, 0, none⟩) nz cz zs w105 Z_5.out)
        rw [← Hzv.out] at k6
        go_wp2_with fail
        refine (k6.out).mono ?_
        rintro ee w106 ⟨rfl, hb6⟩
        have Ht6 := Lib.hid (Ht5.out.trans (hb6.mono (by have h1 := Ht5.out.size; omega)))
        have X_6 := Lib.hid (X_5.out.below hb6)
        have Z_6 := Lib.hid (Z_5.out.below hb6)
        have S_6 := Lib.hid (S_5.out.below hb6)
        clear hb6
        go_wp2_with fail
        go_ret
        exact ⟨rfl, Ht6.out⟩
    · have hn3 : 3 ≤ n := by have := Hn.out; rw [hx] at this; simp at this; omega
      have xc : w104.cell? ⟨g, 1, none⟩ = some (.int .i64 m0) := by
        obtain ⟨b', o', he, hat⟩ := X_4.out.2.2.2 (by omega)
        simp only [Option.some.injEq, Addr.mk.injEq, and_true] at he
        obtain ⟨rfl, rfl⟩ := he
        have h := hat 1 (by rw [hx]; simp)
        rw [hx] at h
        simpa using h
      have hmb : (mv == 0) = false := by simp; omega
      have hnb : ((n : Int) == 1) = false := by simp; omega
      have hnl : ¬ (n : Int) < 2 := by omega
      clear hx
      cases so with
      | false =>
        skip
        go_wp2_with fail
        go_ret
        exact ⟨rfl, Ht4.out⟩
      | true =>
        have hle := Hle.out rfl
        have k7 := Lib.hid (impl_OrdMost aS sr.length cS sr w104 S_4.out)
        rw [← Htv.out] at k7
        go_wp2_with fail
        refine (k7.out).mono ?_
        rintro ee w107 ⟨rfl, hb7⟩
        have Ht7 := Lib.hid (Ht4.out.trans (hb7.mono (by have h1 := Ht4.out.size; omega)))
        have X_7 := Lib.hid (X_4.out.below hb7)
        have Z_7 := Lib.hid (Z_4.out.below hb7)
        have S_7 := Lib.hid (S_4.out.below hb7)
        clear hb7
        have k8 := Lib.hid (impl_OrdMost (some ⟨gz, 0, none⟩) nz cz zs w107 Z_7.out)
        rw [← Hzv.out] at k8
        go_wp2_with fail
        refine (k8.out).mono ?_
        rintro ee w108 ⟨rfl, hb8⟩
        have Ht8 := Lib.hid (Ht7.out.trans (hb8.mono (by have h1 := Ht7.out.size; omega)))
        have X_8 := Lib.hid (X_7.out.below hb8)
        have Z_8 := Lib.hid (Z_7.out.below hb8)
        have S_8 := Lib.hid (S_7.out.below hb8)
        clear hb8
        go_wp2_with fail
        go_ret
        exact ⟨rfl, Ht8.out⟩
  · have hmv := T.mostRow_bad hv
    have Hmv := Lib.hid hmv
    clear hv hmv
    have k9 := Lib.hid (impl_OrdMost (some ⟨g, 0, none⟩) n c xs w1 X_0.out)
    rw [Hmv.out] at k9
    go_wp2_with fail
    refine (k9.out).mono ?_
    rintro ee w109 ⟨rfl, hb9⟩
    have Ht9 := Lib.hid (Ht0.out.trans (hb9.mono (by have h1 := Ht0.out.size; omega)))
    have X_9 := Lib.hid (X_0.out.below hb9)
    clear hb9
    have k10 := Lib.hid (spec_OrdMost (some ⟨g, 0, none⟩) n c xs w109 X_9.out)
    rw [Hmv.out] at k10
    go_wp2_with fail
    refine (k10.out).mono ?_
    rintro ee w110 ⟨rfl, hb10⟩
    have Ht10 := Lib.hid (Ht9.out.trans (hb10.mono (by have h1 := Ht9.out.size; omega)))
    have X_10 := Lib.hid (X_9.out.below hb10)
    clear hb10
    have k11 := Lib.hid (alive_any w110)
    go_wp2_with fail
    refine (k11.out).mono ?_
    rintro ee w111 ⟨rfl, hb11⟩
    have Ht11 := Lib.hid (Ht10.out.trans (hb11.mono (by have h1 := Ht10.out.size; omega)))
    have X_11 := Lib.hid (X_10.out.below hb11)
    clear hb11
    go_wp2_with fail
    go_ret
    exact ⟨rfl, Ht11.out⟩

end Go.Proofs.Ytdcaefgbpnjjaab

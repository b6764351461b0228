/- FnGoodsteinNext: the walk of the law. -/
import Derived.Test.YtaealfmgmonndaaDrawG
import Derived.Test.YtaealfmgmonndaaGoodL
import Derived.Test.YtaealfmgmonndaaBaseV
import Derived.Test.YtaealfmgmonndaaFn1
namespace Go.Proofs.Ytaealfmgmonndaa
set_option maxRecDepth 100000
open Go.RowKit

set_option maxHeartbeats 4000000 in
theorem fnGoodsteinNext_walk (a : Option Addr) (len cap : Nat) (w : World) (h : By w a len cap) :
    Calls Try.prog 5 #[.slice a len cap] w fun e w' => e = .returned (.bool true) ∧ Below w.heap.size w w' := by
  have hlm : len ≤ 9223372036854775807 := by have := h.1; have := h.2.1; unfold maxLen at this; omega
  by_cases hbig : 1048576 < len
  · clear h
    go_enter Try.func5, Try.ntmps5
    go_wp2_with fail
    go_ret
    exact ⟨rfl, Below.refl _ _⟩
  have k0 := Lib.hid (drawGoodsteinNext_any a len cap w h)
  clear h
  go_enter Try.func5, Try.ntmps5
  go_wp2_with fail
  refine (k0.out).mono ?_
  rintro ee w1 ⟨N, A, rfl, hN0, hN1, hA0, hA1, hb0⟩
  have Ht0 := Lib.hid hb0
  have hws := hb0.size
  clear hb0
  rcases T.goodI_vals N A with hs | ⟨hs0, hs1⟩
  · have Hs := Lib.hid hs
    clear hs
    have k1 := Lib.hid (impl_GoodsteinNext N A w1 (by omega) (by omega) (by omega) (by omega))
    rw [Hs.out] at k1
    go_wp2_with fail
    refine (k1.out).mono ?_
    rintro ee w101 ⟨rfl, hb1⟩
    have Ht1 := Lib.hid (Ht0.out.trans (hb1.mono (by have h1 := Ht0.out.size; omega)))
    clear hb1
    have k2 := Lib.hid (spec_GoodsteinNext N A w101 (by omega) (by omega) (by omega) (by omega))
    rw [Hs.out] at k2
    go_wp2_with fail
    refine (k2.out).mono ?_
    rintro ee w102 ⟨rfl, hb2⟩
    have Ht2 := Lib.hid (Ht1.out.trans (hb2.mono (by have h1 := Ht1.out.size; omega)))
    clear hb2
    have k3 := Lib.hid (alive_any w102)
    go_wp2_with fail
    refine (k3.out).mono ?_
    rintro ee w103 ⟨rfl, hb3⟩
    have Ht3 := Lib.hid (Ht2.out.trans (hb3.mono (by have h1 := Ht2.out.size; omega)))
    clear hb3
    go_wp2_with fail
    go_ret
    exact ⟨rfl, Ht3.out⟩
  · obtain ⟨g1, g2, g3, g4⟩ := T.good_some hs0
    obtain ⟨f1, f2, f3⟩ := T.good_fall hs0
    obtain ⟨mv, hmv⟩ : ∃ x, x = T.goodI N A := ⟨_, rfl⟩
    rw [← hmv] at hs0 hs1 g4 f2 f3
    have hrl := T.baseRow_len N A
    have hql := T.baseRow_len mv (A + 1)
    obtain ⟨r, hr⟩ : ∃ x, x = T.baseRow N A := ⟨_, rfl⟩
    obtain ⟨q, hq⟩ : ∃ x, x = T.baseRow mv (A + 1) := ⟨_, rfl⟩
    rw [← hq, ← hr] at f2
    rw [← hr] at hrl
    rw [← hq] at hql
    have Hmv := Lib.hid hmv
    have Hr := Lib.hid hr
    have Hq := Lib.hid hq
    have G4 := Lib.hid g4
    have F3 : N < A ∨ N ≤ mv := by
      by_cases h : A ≤ N
      · exact .inr (f3 h)
      · exact .inl (by omega)
    clear f1 f3 g4 hmv hr hq
    have k4 := Lib.hid (impl_GoodsteinNext N A w1 (by omega) (by omega) (by omega) (by omega))
    rw [← Hmv.out] at k4
    go_wp2_with fail
    refine (k4.out).mono ?_
    rintro ee w104 ⟨rfl, hb4⟩
    have Ht4 := Lib.hid (Ht0.out.trans (hb4.mono (by have h1 := Ht0.out.size; omega)))
    clear hb4
    have k5 := Lib.hid (spec_GoodsteinNext N A w104 (by omega) (by omega) (by omega) (by omega))
    rw [← Hmv.out] at k5
    go_wp2_with fail
    refine (k5.out).mono ?_
    rintro ee w105 ⟨rfl, hb5⟩
    have Ht5 := Lib.hid (Ht4.out.trans (hb5.mono (by have h1 := Ht4.out.size; omega)))
    clear hb5
    rcases f2 with he | hc
    · subst he
      have k6 := Lib.hid (impl_OrdInBase mv (A + 1) w105 (by omega) (by omega) (by omega) (by omega))
      unfold IntPost at k6
      rw [← Hq.out, List.length_nil] at k6
      go_wp2_with fail
      refine (k6.out).mono ?_
      rintro ee w106 ⟨aQ, cQ, rfl, ho, hb6⟩
      have Ht6 := Lib.hid (Ht5.out.trans (hb6.mono (by have h1 := Ht5.out.size; omega)))
      have Q_6 := Lib.hid (Sl.of_own ho)
      clear hb6 ho
      have k7 := Lib.hid (impl_ChangeBase N A (A + 1) w106 (by omega) (by omega) (by omega) (by omega) (by omega) (by omega))
      rw [G4.out] at k7
      go_wp2_with fail
      refine (k7.out).mono ?_
      rintro ee w107 ⟨rfl, hb7⟩
      have Ht7 := Lib.hid (Ht6.out.trans (hb7.mono (by have h1 := Ht6.out.size; omega)))
      have Q_7 := Lib.hid (Q_6.out.below hb7)
      clear hb7
      by_cases hNA : N < A
      · skip
        go_wp2_with fail
        go_ret
        exact ⟨rfl, Ht7.out⟩
      · have h3 : N ≤ mv := by
          rcases F3 with h | h
          · exact absurd h hNA
          · exact h
        go_wp2_with fail
        go_ret
        exact ⟨rfl, Ht7.out⟩
    · have Hc := Lib.hid hc
      clear hc
      have k8 := Lib.hid (impl_OrdInBase mv (A + 1) w105 (by omega) (by omega) (by omega) (by omega))
      unfold IntPost at k8
      rw [← Hq.out] at k8
      go_wp2_with fail
      refine (k8.out).mono ?_
      rintro ee w108 ⟨aQ, cQ, rfl, ho, hb8⟩
      have Ht8 := Lib.hid (Ht5.out.trans (hb8.mono (by have h1 := Ht5.out.size; omega)))
      have Q_8 := Lib.hid (Sl.of_own ho)
      clear hb8 ho
      obtain ⟨ql, hqq⟩ : ∃ x, x = q.length := ⟨_, rfl⟩
      by_cases hz : q.length = 0
      · have hzb : (((q.length : Nat) : Int) == 0) = true := by rw [hz]; rfl
        have k9 := Lib.hid (impl_ChangeBase N A (A + 1) w108 (by omega) (by omega) (by omega) (by omega) (by omega) (by omega))
        rw [G4.out] at k9
        go_wp2_with fail
        refine (k9.out).mono ?_
        rintro ee w109 ⟨rfl, hb9⟩
        have Ht9 := Lib.hid (Ht8.out.trans (hb9.mono (by have h1 := Ht8.out.size; omega)))
        have Q_9 := Lib.hid (Q_8.out.below hb9)
        clear hb9
        by_cases hNA : N < A
        · skip
          go_wp2_with fail
          go_ret
          exact ⟨rfl, Ht9.out⟩
        · have h3 : N ≤ mv := by
            rcases F3 with h | h
            · exact absurd h hNA
            · exact h
          go_wp2_with fail
          go_ret
          exact ⟨rfl, Ht9.out⟩
      · have hzb : (((q.length : Nat) : Int) == 0) = false := by simpa using hz
        have k10 := Lib.hid (impl_OrdInBase N A w108 (by omega) (by omega) (by omega) (by omega))
        unfold IntPost at k10
        rw [← Hr.out] at k10
        go_wp2_with fail
        refine (k10.out).mono ?_
        rintro ee w110 ⟨aP, cP, rfl, ho, hb10⟩
        have Ht10 := Lib.hid (Ht8.out.trans (hb10.mono (by have h1 := Ht8.out.size; omega)))
        have Q_10 := Lib.hid (Q_8.out.below hb10)
        have P_10 := Lib.hid (Sl.of_own ho)
        clear hb10 ho
        have k11 := Lib.hid (impl_OrdCompare aQ aP q.length cQ r.length cP q r w110 Q_10.out P_10.out)
        rw [Hc.out] at k11
        go_wp2_with fail
        refine (k11.out).mono ?_
        rintro ee w111 ⟨rfl, hb11⟩
        have Ht11 := Lib.hid (Ht10.out.trans (hb11.mono (by have h1 := Ht10.out.size; omega)))
        have Q_11 := Lib.hid (Q_10.out.below hb11)
        have P_11 := Lib.hid (P_10.out.below hb11)
        clear hb11
        have k12 := Lib.hid (impl_ChangeBase N A (A + 1) w111 (by omega) (by omega) (by omega) (by omega) (by omega) (by omega))
        rw [G4.out] at k12
        go_wp2_with fail
        refine (k12.out).mono ?_
        rintro ee w112 ⟨rfl, hb12⟩
        have Ht12 := Lib.hid (Ht11.out.trans (hb12.mono (by have h1 := Ht11.out.size; omega)))
        have Q_12 := Lib.hid (Q_11.out.below hb12)
        have P_12 := Lib.hid (P_11.out.below hb12)
        clear hb12
        by_cases hNA : N < A
        · skip
          go_wp2_with fail
          go_ret
          exact ⟨rfl, Ht12.out⟩
        · have h3 : N ≤ mv := by
            rcases F3 with h | h
            · exact absurd h hNA
            · exact h
          go_wp2_with fail
          go_ret
          exact ⟨rfl, Ht12.out⟩

end Go.Proofs.Ytaealfmgmonndaa

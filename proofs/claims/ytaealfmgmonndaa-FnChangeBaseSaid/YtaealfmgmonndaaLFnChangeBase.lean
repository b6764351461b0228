/- FnChangeBase: the walk of the law. -/
import Derived.Test.YtaealfmgmonndaaDrawG
import Derived.Test.YtaealfmgmonndaaGoodL
import Derived.Test.YtaealfmgmonndaaBaseU
import Derived.Test.YtaealfmgmonndaaFn1
namespace Go.Proofs.Ytaealfmgmonndaa
set_option maxRecDepth 100000
open Go.RowKit

set_option maxHeartbeats 4000000 in
theorem fnChangeBase_walk (a : Option Addr) (len cap : Nat) (w : World) (h : By w a len cap) :
    Calls Try.prog 4 #[.slice a len cap] w fun e w' => e = .returned (.bool true) ∧ Below w.heap.size w w' := by
  have hlm : len ≤ 9223372036854775807 := by have := h.1; have := h.2.1; unfold maxLen at this; omega
  by_cases hbig : 1048576 < len
  · clear h
    go_enter Try.func4, Try.ntmps4
    go_wp2_with fail
    go_ret
    exact ⟨rfl, Below.refl _ _⟩
  have k0 := Lib.hid (drawChangeBase_any a len cap w h)
  clear h
  go_enter Try.func4, Try.ntmps4
  go_wp2_with fail
  refine (k0.out).mono ?_
  rintro ee w1 ⟨N, A, V, rfl, hN0, hN1, hA0, hA1, hV0, hV1, hb0⟩
  have Ht0 := Lib.hid hb0
  have hws := hb0.size
  clear hb0
  rcases T.changeI_vals N A V with hs | ⟨hs0, hs1⟩
  · have Hs := Lib.hid hs
    clear hs
    have k1 := Lib.hid (impl_ChangeBase N A V w1 (by omega) (by omega) (by omega) (by omega) (by omega) (by omega))
    rw [Hs.out] at k1
    go_wp2_with fail
    refine (k1.out).mono ?_
    rintro ee w101 ⟨rfl, hb1⟩
    have Ht1 := Lib.hid (Ht0.out.trans (hb1.mono (by have h1 := Ht0.out.size; omega)))
    clear hb1
    have k2 := Lib.hid (spec_ChangeBase N A V w101 (by omega) (by omega) (by omega) (by omega) (by omega) (by omega))
    rw [Hs.out] at k2
    go_wp2_with fail
    refine (k2.out).mono ?_
    rintro ee w102 ⟨rfl, hb2⟩
    have Ht2 := Lib.hid (Ht1.out.trans (hb2.mono (by have h1 := Ht1.out.size; omega)))
    clear hb2
    have k3 := Lib.hid (alive_any w102)
    go_wp2_with fail
    refine (k3.out).mono ?_
    rintro ee w103 ⟨rfl, hb3⟩
    have Ht3 := Lib.hid (Ht2.out.trans (hb3.mono (by have h1 := Ht2.out.size; omega)))
    clear hb3
    go_wp2_with fail
    go_ret
    exact ⟨rfl, Ht3.out⟩
  · obtain ⟨g1, g2, g3, g4⟩ := T.change_some hs0
    have hsame := T.change_same g1
    have hup := T.change_up hs0
    have hrl := T.baseRow_len N A
    obtain ⟨mv, hmv⟩ : ∃ x, x = T.changeI N A V := ⟨_, rfl⟩
    obtain ⟨r, hr⟩ : ∃ x, x = T.baseRow N A := ⟨_, rfl⟩
    rw [← hmv] at hs0 hs1 g4 hup
    rw [← hr] at g4 hup hrl
    have Hmv := Lib.hid hmv
    have Hr := Lib.hid hr
    have G4 := Lib.hid g4
    have Hsame := Lib.hid hsame
    have Hup := Lib.hid hup
    clear g1 g2 g3 g4 hmv hr hsame hup
    have k4 := Lib.hid (impl_ChangeBase N A V w1 (by omega) (by omega) (by omega) (by omega) (by omega) (by omega))
    rw [← Hmv.out] at k4
    go_wp2_with fail
    refine (k4.out).mono ?_
    rintro ee w104 ⟨rfl, hb4⟩
    have Ht4 := Lib.hid (Ht0.out.trans (hb4.mono (by have h1 := Ht0.out.size; omega)))
    clear hb4
    have k5 := Lib.hid (spec_ChangeBase N A V w104 (by omega) (by omega) (by omega) (by omega) (by omega) (by omega))
    rw [← Hmv.out] at k5
    go_wp2_with fail
    refine (k5.out).mono ?_
    rintro ee w105 ⟨rfl, hb5⟩
    have Ht5 := Lib.hid (Ht4.out.trans (hb5.mono (by have h1 := Ht4.out.size; omega)))
    clear hb5
    have k6 := Lib.hid (impl_OrdInBase N A w105 (by omega) (by omega) (by omega) (by omega))
    unfold IntPost at k6
    rw [← Hr.out] at k6
    go_wp2_with fail
    refine (k6.out).mono ?_
    rintro ee w106 ⟨aP, cP, rfl, ho, hb6⟩
    have Ht6 := Lib.hid (Ht5.out.trans (hb6.mono (by have h1 := Ht5.out.size; omega)))
    have P_6 := Lib.hid (Sl.of_own ho)
    clear hb6 ho
    have k7 := Lib.hid (impl_ChangeBase N A A w106 (by omega) (by omega) (by omega) (by omega) (by omega) (by omega))
    rw [Hsame.out] at k7
    go_wp2_with fail
    refine (k7.out).mono ?_
    rintro ee w107 ⟨rfl, hb7⟩
    have Ht7 := Lib.hid (Ht6.out.trans (hb7.mono (by have h1 := Ht6.out.size; omega)))
    have P_7 := Lib.hid (P_6.out.below hb7)
    clear hb7
    by_cases hlt : V < A
    · have k8 := Lib.hid (impl_SlowValue aP r.length cP r V w107 P_7.out (by omega) (by omega))
      rw [G4.out] at k8
      go_wp2_with fail
      refine (k8.out).mono ?_
      rintro ee w108 ⟨rfl, hb8⟩
      have Ht8 := Lib.hid (Ht7.out.trans (hb8.mono (by have h1 := Ht7.out.size; omega)))
      have P_8 := Lib.hid (P_7.out.below hb8)
      clear hb8
      go_wp2_with fail
      go_ret
      exact ⟨rfl, Ht8.out⟩
    · obtain ⟨u1, u2⟩ := Hup.out (by omega)
      have U2 := Lib.hid u2
      clear u2
      have k9 := Lib.hid (impl_OrdInBase mv V w107 (by omega) (by omega) (by omega) (by omega))
      unfold IntPost at k9
      rw [U2.out] at k9
      go_wp2_with fail
      refine (k9.out).mono ?_
      rintro ee w109 ⟨aQ, cQ, rfl, ho, hb9⟩
      have Ht9 := Lib.hid (Ht7.out.trans (hb9.mono (by have h1 := Ht7.out.size; omega)))
      have P_9 := Lib.hid (P_7.out.below hb9)
      have Q_9 := Lib.hid (Sl.of_own ho)
      clear hb9 ho
      have k10 := Lib.hid (sameInts_any aQ aP r.length cQ r.length cP r r w109 (by omega) Q_9.out P_9.out)
      rw [eqB_refl] at k10
      go_wp2_with fail
      refine (k10.out).mono ?_
      rintro ee w110 ⟨rfl, hb10⟩
      have Ht10 := Lib.hid (Ht9.out.trans (hb10.mono (by have h1 := Ht9.out.size; omega)))
      have P_10 := Lib.hid (P_9.out.below hb10)
      have Q_10 := Lib.hid (Q_9.out.below hb10)
      clear hb10
      have k11 := Lib.hid (impl_SlowValue aP r.length cP r V w110 P_10.out (by omega) (by omega))
      rw [G4.out] at k11
      go_wp2_with fail
      refine (k11.out).mono ?_
      rintro ee w111 ⟨rfl, hb11⟩
      have Ht11 := Lib.hid (Ht10.out.trans (hb11.mono (by have h1 := Ht10.out.size; omega)))
      have P_11 := Lib.hid (P_10.out.below hb11)
      have Q_11 := Lib.hid (Q_10.out.below hb11)
      clear hb11
      go_wp2_with fail
      go_ret
      exact ⟨rfl, Ht11.out⟩

end Go.Proofs.Ytaealfmgmonndaa

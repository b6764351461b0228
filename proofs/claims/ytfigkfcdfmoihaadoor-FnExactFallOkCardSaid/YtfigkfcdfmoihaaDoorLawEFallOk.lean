/- FnExactFallOk: the walk of the law. -/
import Derived.Test.YtfigkfcdfmoihaaDoorRelFs
import Derived.Test.YtfigkfcdfmoihaaDoorRelFi
import Derived.Test.YtfigkfcdfmoihaaDoorTrQ
namespace Go.Proofs.YtfigkfcdfmoihaaDoor
set_option maxRecDepth 100000
open Go.RowKit

set_option maxHeartbeats 4000000 in
theorem exactFallOk_walk (a0 : Option Addr) (n0 c0 : Nat) (x0 : List Int) (a1 : Option Addr) (n1 c1 : Nat) (x1 : List (List Int)) (w : World) (h0 : Sl w a0 n0 c0 x0) (h1 : SlR w a1 n1 c1 x1) (hT : Tab w) :
    Calls Tryd.prog 4 #[.slice a0 n0 c0, .slice a1 n1 c1] w fun e w' => e = .returned (.bool true) ∧ Below w.heap.size w w' := by
  have H0 := Lib.hid h0
  have H1 := Lib.hid h1
  have HT := Lib.hid hT
  have htl := hT.lt
  clear h0 h1 hT
  by_cases hn0 : n0 ≤ 1048576
  · skip
    have hm0 : n0 ≤ 1000000000000 := by omega
    obtain ⟨r, hr⟩ : ∃ r, r = fallB x0 x1 := ⟨_, rfl⟩
    go_enter Tryd.func4, Tryd.ntmps4
    have k1 := Lib.hid (szIntSS_any a1 n1 c1 x1 (1048576 : Int) w H1.out (by omega) (by omega))
    go_wp2_with fail
    refine (k1.out).mono ?_
    rintro ee w1 ⟨rfl, hb1⟩
    have Z1 := Lib.hid hb1.size
    have Hb1 := Lib.hid (hb1)
    clear hb1
    by_cases hs1 : ((n1 + szRs x1 : Nat) : Int) ≤ (1048576 : Int)
    · rw [szI_yes hs1]
      obtain ⟨z1, ez1⟩ : ∃ q, q = (1048576 : Int) - ((n1 + szRs x1 : Nat) : Int) := ⟨_, rfl⟩
      have hz1 : ¬ (z1 < 0) := by omega
      have hn1 : n1 ≤ 1048576 := by omega
      have hb_1 := Lib.hid (szRs_bl (show szRs x1 ≤ 1048576 by omega))
      have ht1 : szRs x1 ≤ 1048576 := by omega
      rw [← ez1]
      have hzm1 : z1 ≤ 1048576 := by omega
      clear ez1 hs1
      have HT1 := Lib.hid ht1
      clear ht1
      have kS := Lib.hid (fun (A0 : Option Addr) (A1 : Option Addr) w (s0 : Sl w A0 n0 n0 x0) (s1 : SlR w A1 n1 n1 x1) => spec_FallOk A0 n0 n0 x0 A1 n1 n1 x1 w s0 s1)
      have kI := Lib.hid (fun (A0 : Option Addr) (A1 : Option Addr) w (s0 : Sl w A0 n0 n0 x0) (s1 : SlR w A1 n1 n1 x1) (hx : Tab w) => impl_FallOk A0 n0 n0 x0 A1 n1 n1 x1 w s0 s1 hx)
      rw [← hr] at kS kI
      clear hr
      have k2 := Lib.hid (toIntS_any a0 n0 c0 x0 w1 hm0 (H0.out.below Hb1.out))
      go_wp2_with fail
      refine (k2.out).mono ?_
      rintro ee w2 ⟨rfl, ho2, hb2⟩
      have Z2 := Lib.hid hb2.size
      have Hb2 := Lib.hid (Hb1.out.trans (hb2.mono Hb1.out.size))
      have OX0_2 := Lib.hid ho2
      clear ho2 hb2
      have k3 := Lib.hid (toIntSS_any a1 n1 c1 x1 w2 hn1 hb_1.out (H1.out.below Hb2.out))
      go_wp2_with fail
      refine (k3.out).mono ?_
      rintro ee w3 ⟨v3, rfl, hq3, hb3⟩
      have Z3 := Lib.hid hb3.size
      have Hb3 := Lib.hid (Hb2.out.trans (hb3.mono Hb2.out.size))
      have OX0_3 := Lib.hid (ownsRow_below' OX0_2.out hb3)
      obtain ⟨g3, e3, _⟩ := hq3.parts
      subst e3
      have OX1_3 := Lib.hid hq3
      clear hq3 hb3
      have k4 := Lib.hid (kS.out (some ⟨w1.heap.size, 0, none⟩) (some ⟨g3, 0, none⟩) w3 (Sl.of_own OX0_3.out) OX1_3.out.sl)
      go_wp2_with fail
      refine (k4.out).mono ?_
      rintro ee w4 ⟨rfl, hb4⟩
      have Z4 := Lib.hid hb4.size
      have Hb4 := Lib.hid (Hb3.out.trans (hb4.mono Hb3.out.size))
      have OX0_4 := Lib.hid (ownsRow_below' OX0_3.out hb4)
      have OX1_4 := Lib.hid (RsCopy.below OX1_3.out hb4)
      clear hb4
      have k5 := Lib.hid (toIntS_any a0 n0 c0 x0 w4 hm0 (H0.out.below Hb4.out))
      go_wp2_with fail
      refine (k5.out).mono ?_
      rintro ee w5 ⟨rfl, ho5, hb5⟩
      have Z5 := Lib.hid hb5.size
      have Hb5 := Lib.hid (Hb4.out.trans (hb5.mono Hb4.out.size))
      have OX0_5 := Lib.hid ho5
      clear ho5 hb5
      have k6 := Lib.hid (toIntSS_any a1 n1 c1 x1 w5 hn1 hb_1.out (H1.out.below Hb5.out))
      go_wp2_with fail
      refine (k6.out).mono ?_
      rintro ee w6 ⟨v6, rfl, hq6, hb6⟩
      have Z6 := Lib.hid hb6.size
      have Hb6 := Lib.hid (Hb5.out.trans (hb6.mono Hb5.out.size))
      have OX0_6 := Lib.hid (ownsRow_below' OX0_5.out hb6)
      obtain ⟨g6, e6, _⟩ := hq6.parts
      subst e6
      have OX1_6 := Lib.hid hq6
      clear hq6 hb6
      have k7 := Lib.hid (kI.out (some ⟨w4.heap.size, 0, none⟩) (some ⟨g6, 0, none⟩) w6 (Sl.of_own OX0_6.out) OX1_6.out.sl (HT.out.below Hb6.out htl))
      go_wp2_with fail
      refine (k7.out).mono ?_
      rintro ee w7 ⟨rfl, hb7⟩
      have Z7 := Lib.hid hb7.size
      have Hb7 := Lib.hid (Hb6.out.trans (hb7.mono Hb6.out.size))
      have OX0_7 := Lib.hid (ownsRow_below' OX0_6.out hb7)
      have OX1_7 := Lib.hid (RsCopy.below OX1_6.out hb7)
      clear hb7
      have hne : (r != r) = false := by simp
      have k8 := Lib.hid (toIntS_any a0 n0 c0 x0 w7 hm0 (H0.out.below Hb7.out))
      go_wp2_with fail
      refine (k8.out).mono ?_
      rintro ee w8 ⟨rfl, ho8, hb8⟩
      have Z8 := Lib.hid hb8.size
      have Hb8 := Lib.hid (Hb7.out.trans (hb8.mono Hb7.out.size))
      have OX0_8 := Lib.hid (ownsRow_below' OX0_7.out hb8)
      have OX1_8 := Lib.hid (RsCopy.below OX1_7.out hb8)
      have OT_8 := Lib.hid ho8
      clear ho8 hb8
      have k9 := Lib.hid (eqIntS_any (some ⟨w4.heap.size, 0, none⟩) (some ⟨w7.heap.size, 0, none⟩) n0 n0 n0 n0 x0 x0 w8 (by omega) (Sl.of_own OX0_8.out) (Sl.of_own OT_8.out))
      rw [eqB_refl] at k9
      go_wp2_with fail
      refine (k9.out).mono ?_
      rintro ee w9 ⟨rfl, hb9⟩
      have Z9 := Lib.hid hb9.size
      have Hb9 := Lib.hid (Hb8.out.trans (hb9.mono Hb8.out.size))
      have OX0_9 := Lib.hid (ownsRow_below' OX0_8.out hb9)
      have OX1_9 := Lib.hid (RsCopy.below OX1_8.out hb9)
      have OT_9 := Lib.hid (ownsRow_below' OT_8.out hb9)
      clear hb9
      have k10 := Lib.hid (toIntSS_any a1 n1 c1 x1 w9 hn1 hb_1.out (H1.out.below Hb9.out))
      go_wp2_with fail
      refine (k10.out).mono ?_
      rintro ee w10 ⟨v10, rfl, hq10, hb10⟩
      have Z10 := Lib.hid hb10.size
      have Hb10 := Lib.hid (Hb9.out.trans (hb10.mono Hb9.out.size))
      have OX0_10 := Lib.hid (ownsRow_below' OX0_9.out hb10)
      have OX1_10 := Lib.hid (RsCopy.below OX1_9.out hb10)
      obtain ⟨g10, e10, _⟩ := hq10.parts
      subst e10
      have OT_10 := Lib.hid hq10
      clear hq10 hb10
      have k11 := Lib.hid (eqIntSSa_same (some ⟨g6, 0, none⟩) (some ⟨g10, 0, none⟩) n1 n1 n1 x1 w10 hn1 hb_1.out OX1_10.out.sl OT_10.out.sl)
      go_wp2_with fail
      refine (k11.out).mono ?_
      rintro ee w11 ⟨rfl, hb11⟩
      have Z11 := Lib.hid hb11.size
      have Hb11 := Lib.hid (Hb10.out.trans (hb11.mono Hb10.out.size))
      have OX0_11 := Lib.hid (ownsRow_below' OX0_10.out hb11)
      have OX1_11 := Lib.hid (RsCopy.below OX1_10.out hb11)
      have OT_11 := Lib.hid (RsCopy.below OT_10.out hb11)
      clear hb11
      go_wp2_with fail
      go_ret
      exact ⟨rfl, Hb11.out⟩
    · rw [szI_no hs1]
      go_wp2_with fail
      go_ret
      exact ⟨rfl, Hb1.out⟩
  · have hgt0 : (1048576 : Int) < n0 := by omega
    go_enter Tryd.func4, Tryd.ntmps4
    go_wp2_with fail
    go_ret
    exact ⟨rfl, Below.refl _ _⟩

end Go.Proofs.YtfigkfcdfmoihaaDoor

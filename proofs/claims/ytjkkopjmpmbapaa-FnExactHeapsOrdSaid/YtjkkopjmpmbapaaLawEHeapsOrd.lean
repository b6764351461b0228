/- FnExactHeapsOrd: the walk of the law. -/
import Derived.Test.YtjkkopjmpmbapaaTrOX
namespace Go.Proofs.Ytjkkopjmpmbapaa
set_option maxRecDepth 100000
open Go.RowKit

set_option maxHeartbeats 4000000 in
theorem exactHeapsOrd_walk (a0 : Option Addr) (n0 c0 : Nat) (x0 : List Int) (a1 : Option Addr) (n1 c1 : Nat) (x1 : List (List Int)) (w : World) (h0 : Sl w a0 n0 c0 x0) (h1 : SlR w a1 n1 c1 x1) :
    Calls Try.prog 7 #[.slice a0 n0 c0, .slice a1 n1 c1] w fun e w' => e = .returned (.bool true) ∧ Below w.heap.size w w' := by
  have H0 := Lib.hid h0
  have H1 := Lib.hid h1
  clear h0 h1
  by_cases hn0 : n0 ≤ 1048576
  · skip
    have hm0 : n0 ≤ 1000000000000 := by omega
    obtain ⟨r, hr⟩ : ∃ r, r = hordR x0 x1 := ⟨_, rfl⟩
    obtain ⟨o, ho⟩ : ∃ o, o = hordB x0 x1 := ⟨_, rfl⟩
    have hrl : r.length ≤ 1000 := by rw [hr]; exact (Nat.le_trans (hordR_le x0 x1) (by decide))
    go_enter Try.func7, Try.ntmps7
    have k1 := Lib.hid (szIntSS_any a1 n1 c1 x1 (1048576 : Int) w H1.out (by omega) (by omega))
    go_wp2_with fail
    refine (k1.out).mono ?_
    rintro ee w1 ⟨rfl, hb1⟩
    have Z1 := Lib.hid hb1.size
    have Hb1 := Lib.hid (hb1)
    clear hb1
    by_cases hs1 : ((n1 + szRs x1 : Nat) : Int) ≤ (1048576 : Int)
    · rw [szI_yes hs1]
      obtain ⟨z1, ez1⟩ : ∃ q, q = (1048576 : Int) - ((n1 + szRs x1 : Nat) : Int) := ⟨_, rfl⟩
      have hz1 : ¬ (z1 < 0) := by omega
      have hn1 : n1 ≤ 1048576 := by omega
      have hb_1 := Lib.hid (szRs_bl (show szRs x1 ≤ 1048576 by omega))
      have ht1 : szRs x1 ≤ 1048576 := by omega
      rw [← ez1]
      have hzm1 : z1 ≤ 1048576 := by omega
      clear ez1 hs1
      have HT1 := Lib.hid ht1
      clear ht1
      have kS := Lib.hid (fun (A0 : Option Addr) (A1 : Option Addr) w (s0 : Sl w A0 n0 n0 x0) (s1 : SlR w A1 n1 n1 x1) => spec_HeapsOrd A0 n0 n0 x0 A1 n1 n1 x1 w hn1 s0 s1)
      have kI := Lib.hid (fun (A0 : Option Addr) (A1 : Option Addr) w (s0 : Sl w A0 n0 n0 x0) (s1 : SlR w A1 n1 n1 x1) => impl_HeapsOrd A0 n0 n0 x0 A1 n1 n1 x1 w hn0 hn1 s0 s1)
      unfold TdPost at kS kI
      rw [← hr, ← ho] at kS kI
      clear hr ho
      have k2 := Lib.hid (toIntS_any a0 n0 c0 x0 w1 hm0 (H0.out.below Hb1.out))
      go_wp2_with fail
      refine (k2.out).mono ?_
      rintro ee w2 ⟨rfl, ho2, hb2⟩
      have Z2 := Lib.hid hb2.size
      have Hb2 := Lib.hid (Hb1.out.trans (hb2.mono Hb1.out.size))
      have OX0_2 := Lib.hid ho2
      clear ho2 hb2
      have k3 := Lib.hid (toIntSS_any a1 n1 c1 x1 w2 hn1 hb_1.out (H1.out.below Hb2.out))
      go_wp2_with fail
      refine (k3.out).mono ?_
      rintro ee w3 ⟨v3, rfl, hq3, hb3⟩
      have Z3 := Lib.hid hb3.size
      have Hb3 := Lib.hid (Hb2.out.trans (hb3.mono Hb2.out.size))
      have OX0_3 := Lib.hid (ownsRow_below' OX0_2.out hb3)
      obtain ⟨g3, e3, _⟩ := hq3.parts
      subst e3
      have OX1_3 := Lib.hid hq3
      clear hq3 hb3
      have k4 := Lib.hid (kS.out (some ⟨w1.heap.size, 0, none⟩) (some ⟨g3, 0, none⟩) w3 (Sl.of_own OX0_3.out) OX1_3.out.sl)
      go_wp2_with fail
      refine (k4.out).mono ?_
      rintro ee w4 ⟨aW, cW, rfl, ho4, hb4⟩
      have Z4 := Lib.hid hb4.size
      have Hb4 := Lib.hid (Hb3.out.trans (hb4.mono Hb3.out.size))
      have OX0_4 := Lib.hid (ownsRow_below' OX0_3.out hb4)
      have OX1_4 := Lib.hid (RsCopy.below OX1_3.out hb4)
      have OW_4 := Lib.hid ho4
      clear ho4 hb4
      have SW := Lib.hid (Sl.of_own OW_4.out)
      have Hc4 := Lib.hid (Below.refl w4.heap.size w4)
      have k5 := Lib.hid (toIntS_any a0 n0 c0 x0 w4 hm0 (H0.out.below Hb4.out))
      go_wp2_with fail
      refine (k5.out).mono ?_
      rintro ee w5 ⟨rfl, ho5, hb5⟩
      have Z5 := Lib.hid hb5.size
      have Hb5 := Lib.hid (Hb4.out.trans (hb5.mono Hb4.out.size))
      have Hc5 := Lib.hid (Hc4.out.trans (hb5.mono Hc4.out.size))
      have OX0_5 := Lib.hid ho5
      clear ho5 hb5
      have k6 := Lib.hid (toIntSS_any a1 n1 c1 x1 w5 hn1 hb_1.out (H1.out.below Hb5.out))
      go_wp2_with fail
      refine (k6.out).mono ?_
      rintro ee w6 ⟨v6, rfl, hq6, hb6⟩
      have Z6 := Lib.hid hb6.size
      have Hb6 := Lib.hid (Hb5.out.trans (hb6.mono Hb5.out.size))
      have Hc6 := Lib.hid (Hc5.out.trans (hb6.mono Hc5.out.size))
      have OX0_6 := Lib.hid (ownsRow_below' OX0_5.out hb6)
      obtain ⟨g6, e6, _⟩ := hq6.parts
      subst e6
      have OX1_6 := Lib.hid hq6
      clear hq6 hb6
      have k7 := Lib.hid (kI.out (some ⟨w4.heap.size, 0, none⟩) (some ⟨g6, 0, none⟩) w6 (Sl.of_own OX0_6.out) OX1_6.out.sl)
      go_wp2_with fail
      refine (k7.out).mono ?_
      rintro ee w7 ⟨aG, cG, rfl, ho7, hb7⟩
      have Z7 := Lib.hid hb7.size
      have Hb7 := Lib.hid (Hb6.out.trans (hb7.mono Hb6.out.size))
      have Hc7 := Lib.hid (Hc6.out.trans (hb7.mono Hc6.out.size))
      have OX0_7 := Lib.hid (ownsRow_below' OX0_6.out hb7)
      have OX1_7 := Lib.hid (RsCopy.below OX1_6.out hb7)
      have OG_7 := Lib.hid ho7
      clear ho7 hb7
      have hne : (o != o) = false := by simp
      have k8 := Lib.hid (eqIntS_any aG aW r.length cG r.length cW r r w7 (by omega) (Sl.of_own OG_7.out) (SW.out.below Hc7.out))
      rw [eqB_refl] at k8
      go_wp2_with fail
      refine (k8.out).mono ?_
      rintro ee w8 ⟨rfl, hb8⟩
      have Z8 := Lib.hid hb8.size
      have Hb8 := Lib.hid (Hb7.out.trans (hb8.mono Hb7.out.size))
      have Hc8 := Lib.hid (Hc7.out.trans (hb8.mono Hc7.out.size))
      have OX0_8 := Lib.hid (ownsRow_below' OX0_7.out hb8)
      have OX1_8 := Lib.hid (RsCopy.below OX1_7.out hb8)
      have OG_8 := Lib.hid (ownsRow_below' OG_7.out hb8)
      clear hb8
      have k9 := Lib.hid (toIntS_any a0 n0 c0 x0 w8 hm0 (H0.out.below Hb8.out))
      go_wp2_with fail
      refine (k9.out).mono ?_
      rintro ee w9 ⟨rfl, ho9, hb9⟩
      have Z9 := Lib.hid hb9.size
      have Hb9 := Lib.hid (Hb8.out.trans (hb9.mono Hb8.out.size))
      have Hc9 := Lib.hid (Hc8.out.trans (hb9.mono Hc8.out.size))
      have OX0_9 := Lib.hid (ownsRow_below' OX0_8.out hb9)
      have OX1_9 := Lib.hid (RsCopy.below OX1_8.out hb9)
      have OG_9 := Lib.hid (ownsRow_below' OG_8.out hb9)
      have OT_9 := Lib.hid ho9
      clear ho9 hb9
      have k10 := Lib.hid (eqIntS_any (some ⟨w4.heap.size, 0, none⟩) (some ⟨w8.heap.size, 0, none⟩) n0 n0 n0 n0 x0 x0 w9 (by omega) (Sl.of_own OX0_9.out) (Sl.of_own OT_9.out))
      rw [eqB_refl] at k10
      go_wp2_with fail
      refine (k10.out).mono ?_
      rintro ee w10 ⟨rfl, hb10⟩
      have Z10 := Lib.hid hb10.size
      have Hb10 := Lib.hid (Hb9.out.trans (hb10.mono Hb9.out.size))
      have Hc10 := Lib.hid (Hc9.out.trans (hb10.mono Hc9.out.size))
      have OX0_10 := Lib.hid (ownsRow_below' OX0_9.out hb10)
      have OX1_10 := Lib.hid (RsCopy.below OX1_9.out hb10)
      have OG_10 := Lib.hid (ownsRow_below' OG_9.out hb10)
      have OT_10 := Lib.hid (ownsRow_below' OT_9.out hb10)
      clear hb10
      have k11 := Lib.hid (toIntSS_any a1 n1 c1 x1 w10 hn1 hb_1.out (H1.out.below Hb10.out))
      go_wp2_with fail
      refine (k11.out).mono ?_
      rintro ee w11 ⟨v11, rfl, hq11, hb11⟩
      have Z11 := Lib.hid hb11.size
      have Hb11 := Lib.hid (Hb10.out.trans (hb11.mono Hb10.out.size))
      have Hc11 := Lib.hid (Hc10.out.trans (hb11.mono Hc10.out.size))
      have OX0_11 := Lib.hid (ownsRow_below' OX0_10.out hb11)
      have OX1_11 := Lib.hid (RsCopy.below OX1_10.out hb11)
      have OG_11 := Lib.hid (ownsRow_below' OG_10.out hb11)
      obtain ⟨g11, e11, _⟩ := hq11.parts
      subst e11
      have OT_11 := Lib.hid hq11
      clear hq11 hb11
      have k12 := Lib.hid (eqIntSSa_same (some ⟨g6, 0, none⟩) (some ⟨g11, 0, none⟩) n1 n1 n1 x1 w11 hn1 hb_1.out OX1_11.out.sl OT_11.out.sl)
      go_wp2_with fail
      refine (k12.out).mono ?_
      rintro ee w12 ⟨rfl, hb12⟩
      have Z12 := Lib.hid hb12.size
      have Hb12 := Lib.hid (Hb11.out.trans (hb12.mono Hb11.out.size))
      have Hc12 := Lib.hid (Hc11.out.trans (hb12.mono Hc11.out.size))
      have OX0_12 := Lib.hid (ownsRow_below' OX0_11.out hb12)
      have OX1_12 := Lib.hid (RsCopy.below OX1_11.out hb12)
      have OG_12 := Lib.hid (ownsRow_below' OG_11.out hb12)
      have OT_12 := Lib.hid (RsCopy.below OT_11.out hb12)
      clear hb12
      have k13 := Lib.hid (markIntS_any w4.heap.size (some ⟨w4.heap.size, 0, none⟩) n0 n0 x0 (1) w12 (by omega) (by omega) (by omega) OX0_12.out)
      go_wp2_with fail
      refine (k13.out).mono ?_
      rintro ee w13 ⟨rfl, _, hb13, hg13⟩
      have hU13 : w4.heap.size < w5.heap.size := (OX0_5.out.lt _ rfl).2
      have hm_13 := Mid.of_grown hb13 hg13 hU13
      clear hg13 hU13
      have Z13 := Lib.hid hb13.size
      have Hb13 := Lib.hid (Hb12.out.trans (hb13.mono (by have z1 := Z1.out; have z2 := Z2.out; have z3 := Z3.out; have z4 := Z4.out; omega)))
      have Hc13 := Lib.hid (Hc12.out.trans (hb13.mono (Nat.le_refl _)))
      have OX1_13 := Lib.hid (OX1_12.out.mid hm_13 (Nat.le_refl _))
      have OG_13 := Lib.hid (hm_13.own OG_12.out (by have z6 := Z6.out; omega))
      clear hb13 hm_13
      have k14 := Lib.hid (markIntSSa_any w5.heap.size w6.heap.size _ n1 x1 (1 + n0) w13 hn1 HT1.out (by omega) (by omega) OX1_13.out)
      go_wp2_with fail
      refine (k14.out).mono ?_
      rintro ee w14 ⟨y14, rfl, hy14, hy14', hm_14⟩
      have hb14 := hm_14.below
      have hyb14 : y14 ≤ 10000000 := by have := HT1.out; omega
      clear hy14'
      have Z14 := Lib.hid hb14.size
      have Hb14 := Lib.hid (Hb13.out.trans (hb14.mono (by have z1 := Z1.out; have z2 := Z2.out; have z3 := Z3.out; have z4 := Z4.out; have z5 := Z5.out; omega)))
      have Hc14 := Lib.hid (Hc13.out.trans (hb14.mono (by have z5 := Z5.out; omega)))
      have OG_14 := Lib.hid (hm_14.own OG_13.out (Nat.le_refl _))
      clear hb14 hm_14
      have hkk : ¬ ((y14 : Int) < 0) := by omega
      have k15 := Lib.hid (eqIntS_any aG aW r.length cG r.length cW r r w14 (by omega) (Sl.of_own OG_14.out) (SW.out.below Hc14.out))
      rw [eqB_refl] at k15
      go_wp2_with fail
      refine (k15.out).mono ?_
      rintro ee w15 ⟨rfl, hb15⟩
      have Z15 := Lib.hid hb15.size
      have Hb15 := Lib.hid (Hb14.out.trans (hb15.mono Hb14.out.size))
      have Hc15 := Lib.hid (Hc14.out.trans (hb15.mono Hc14.out.size))
      have OG_15 := Lib.hid (ownsRow_below' OG_14.out hb15)
      clear hb15
      have k16 := Lib.hid (markIntS_any w6.heap.size aG r.length cG r 1 w15 (by omega) (by decide) (by decide) OG_15.out)
      go_wp2_with fail
      refine (k16.out).mono ?_
      rintro ee w16 ⟨rfl, ho16, hb16, _⟩
      have Z16 := Lib.hid hb16.size
      have Hb16 := Lib.hid (Hb15.out.trans (hb16.mono (by have z1 := Z1.out; have z2 := Z2.out; have z3 := Z3.out; have z4 := Z4.out; have z5 := Z5.out; have z6 := Z6.out; omega)))
      have Hc16 := Lib.hid (Hc15.out.trans (hb16.mono (by have z5 := Z5.out; have z6 := Z6.out; omega)))
      have OG_16 := Lib.hid ho16
      clear ho16 hb16
      have hge3 : ¬ ((1 : Int) + (r.length : Int) < 0) := by omega
      have k17 := Lib.hid (heldIntS_any aG r.length cG 1 w16 (by omega) (by decide) (by decide) (Sl.of_own OG_16.out))
      go_wp2_with fail
      refine (k17.out).mono ?_
      rintro ee w17 ⟨rfl, hb17⟩
      have Z17 := Lib.hid hb17.size
      have Hb17 := Lib.hid (Hb16.out.trans (hb17.mono Hb16.out.size))
      have Hc17 := Lib.hid (Hc16.out.trans (hb17.mono Hc16.out.size))
      have OG_17 := Lib.hid (ownsRow_below' OG_16.out hb17)
      clear hb17
      have k18 := Lib.hid (toIntS_any a0 n0 c0 x0 w17 hm0 (H0.out.below Hb17.out))
      go_wp2_with fail
      refine (k18.out).mono ?_
      rintro ee w18 ⟨rfl, ho18, hb18⟩
      have Z18 := Lib.hid hb18.size
      have Hb18 := Lib.hid (Hb17.out.trans (hb18.mono Hb17.out.size))
      have Hc18 := Lib.hid (Hc17.out.trans (hb18.mono Hc17.out.size))
      have OG_18 := Lib.hid (ownsRow_below' OG_17.out hb18)
      have OX0_18 := Lib.hid ho18
      clear ho18 hb18
      have k19 := Lib.hid (toIntSS_any a1 n1 c1 x1 w18 hn1 hb_1.out (H1.out.below Hb18.out))
      go_wp2_with fail
      refine (k19.out).mono ?_
      rintro ee w19 ⟨v19, rfl, hq19, hb19⟩
      have Z19 := Lib.hid hb19.size
      have Hb19 := Lib.hid (Hb18.out.trans (hb19.mono Hb18.out.size))
      have Hc19 := Lib.hid (Hc18.out.trans (hb19.mono Hc18.out.size))
      have OG_19 := Lib.hid (ownsRow_below' OG_18.out hb19)
      have OX0_19 := Lib.hid (ownsRow_below' OX0_18.out hb19)
      obtain ⟨g19, e19, _⟩ := hq19.parts
      subst e19
      have OX1_19 := Lib.hid hq19
      clear hq19 hb19
      have k20 := Lib.hid (kI.out (some ⟨w17.heap.size, 0, none⟩) (some ⟨g19, 0, none⟩) w19 (Sl.of_own OX0_19.out) OX1_19.out.sl)
      go_wp2_with fail
      refine (k20.out).mono ?_
      rintro ee w20 ⟨aV, cV, rfl, ho20, hb20⟩
      have Z20 := Lib.hid hb20.size
      have Hb20 := Lib.hid (Hb19.out.trans (hb20.mono Hb19.out.size))
      have Hc20 := Lib.hid (Hc19.out.trans (hb20.mono Hc19.out.size))
      have OG_20 := Lib.hid (ownsRow_below' OG_19.out hb20)
      have OX0_20 := Lib.hid (ownsRow_below' OX0_19.out hb20)
      have OX1_20 := Lib.hid (RsCopy.below OX1_19.out hb20)
      have OV_20 := Lib.hid ho20
      clear ho20 hb20
      have k21 := Lib.hid (eqIntS_any aV aW r.length cV r.length cW r r w20 (by omega) (Sl.of_own OV_20.out) (SW.out.below Hc20.out))
      rw [eqB_refl] at k21
      go_wp2_with fail
      refine (k21.out).mono ?_
      rintro ee w21 ⟨rfl, hb21⟩
      have Z21 := Lib.hid hb21.size
      have Hb21 := Lib.hid (Hb20.out.trans (hb21.mono Hb20.out.size))
      have Hc21 := Lib.hid (Hc20.out.trans (hb21.mono Hc20.out.size))
      have OG_21 := Lib.hid (ownsRow_below' OG_20.out hb21)
      have OV_21 := Lib.hid (ownsRow_below' OV_20.out hb21)
      clear hb21
      have k22 := Lib.hid (heldIntS_any aG r.length cG 1 w21 (by omega) (by decide) (by decide) (Sl.of_own OG_21.out))
      go_wp2_with fail
      refine (k22.out).mono ?_
      rintro ee w22 ⟨rfl, hb22⟩
      have Z22 := Lib.hid hb22.size
      have Hb22 := Lib.hid (Hb21.out.trans (hb22.mono Hb21.out.size))
      have Hc22 := Lib.hid (Hc21.out.trans (hb22.mono Hc21.out.size))
      have OG_22 := Lib.hid (ownsRow_below' OG_21.out hb22)
      clear hb22
      go_wp2_with fail
      go_ret
      exact ⟨rfl, Hb22.out⟩
    · rw [szI_no hs1]
      go_wp2_with fail
      go_ret
      exact ⟨rfl, Hb1.out⟩
  · have hgt0 : (1048576 : Int) < n0 := by omega
    go_enter Try.func7, Try.ntmps7
    go_wp2_with fail
    go_ret
    exact ⟨rfl, Below.refl _ _⟩

end Go.Proofs.Ytjkkopjmpmbapaa

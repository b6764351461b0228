/- FnExactRelPairs: the walk of the law. -/
import Derived.Test.YtphcgmelaghbdaaDoorRelPS
import Derived.Test.YtphcgmelaghbdaaDoorRelCq
namespace Go.Proofs.YtphcgmelaghbdaaDoor
set_option maxRecDepth 100000
open Go.RowKit

set_option maxHeartbeats 4000000 in
theorem exactRelPairs_walk (a0 : Option Addr) (n0 c0 : Nat) (x0 : List Int) (a1 : Option Addr) (n1 c1 : Nat) (x1 : List Int) (w : World) (h0 : Sl w a0 n0 c0 x0) (h1 : Sl w a1 n1 c1 x1) (hT : Tab w) :
    Calls Tryd.prog 5 #[.slice a0 n0 c0, .slice a1 n1 c1] w fun e w' => e = .returned (.bool true) ∧ Below w.heap.size w w' := by
  have H0 := Lib.hid h0
  have H1 := Lib.hid h1
  have HT := Lib.hid hT
  have htl := hT.lt
  clear h0 h1 hT
  by_cases hn0 : n0 ≤ 1048576
  · skip
    have hm0 : n0 ≤ 1000000000000 := by omega
    by_cases hn1 : n1 ≤ 1048576
    · skip
      have hm1 : n1 ≤ 1000000000000 := by omega
      obtain ⟨r, hr⟩ : ∃ r, r = prs x0 x1 := ⟨_, rfl⟩
      have hrl : r.length ≤ 1000 := by rw [hr]; exact prs_len x0 x1
      go_enter Tryd.func5, Tryd.ntmps5
      have kS := Lib.hid (fun (A0 : Option Addr) (A1 : Option Addr) w (s0 : Sl w A0 n0 n0 x0) (s1 : Sl w A1 n1 n1 x1) => spec_RelPairs A0 n0 n0 x0 A1 n1 n1 x1 w s0 s1)
      have kI := Lib.hid (fun (A0 : Option Addr) (A1 : Option Addr) w (s0 : Sl w A0 n0 n0 x0) (s1 : Sl w A1 n1 n1 x1) (hx : Tab w) => impl_RelPairs A0 n0 n0 x0 A1 n1 n1 x1 w s0 s1 hx)
      unfold RkPost at kS kI
      rw [← hr] at kS kI
      clear hr
      have k1 := Lib.hid (toIntS_any a0 n0 c0 x0 w hm0 H0.out)
      go_wp2_with fail
      refine (k1.out).mono ?_
      rintro ee w1 ⟨rfl, ho1, hb1⟩
      have Z1 := Lib.hid hb1.size
      have Hb1 := Lib.hid (hb1)
      have OX0_1 := Lib.hid ho1
      clear ho1 hb1
      have k2 := Lib.hid (toIntS_any a1 n1 c1 x1 w1 hm1 (H1.out.below Hb1.out))
      go_wp2_with fail
      refine (k2.out).mono ?_
      rintro ee w2 ⟨rfl, ho2, hb2⟩
      have Z2 := Lib.hid hb2.size
      have Hb2 := Lib.hid (Hb1.out.trans (hb2.mono Hb1.out.size))
      have OX0_2 := Lib.hid (ownsRow_below' OX0_1.out hb2)
      have OX1_2 := Lib.hid ho2
      clear ho2 hb2
      have k3 := Lib.hid (kS.out (some ⟨w.heap.size, 0, none⟩) (some ⟨w1.heap.size, 0, none⟩) w2 (Sl.of_own OX0_2.out) (Sl.of_own OX1_2.out))
      go_wp2_with fail
      refine (k3.out).mono ?_
      rintro ee w3 ⟨aW, cW, rfl, ho3, hb3⟩
      have Z3 := Lib.hid hb3.size
      have Hb3 := Lib.hid (Hb2.out.trans (hb3.mono Hb2.out.size))
      have OX0_3 := Lib.hid (ownsRow_below' OX0_2.out hb3)
      have OX1_3 := Lib.hid (ownsRow_below' OX1_2.out hb3)
      have OW_3 := Lib.hid ho3
      clear ho3 hb3
      have SW := Lib.hid (Sl.of_own OW_3.out)
      have Hc3 := Lib.hid (Below.refl w3.heap.size w3)
      have k4 := Lib.hid (toIntS_any a0 n0 c0 x0 w3 hm0 (H0.out.below Hb3.out))
      go_wp2_with fail
      refine (k4.out).mono ?_
      rintro ee w4 ⟨rfl, ho4, hb4⟩
      have Z4 := Lib.hid hb4.size
      have Hb4 := Lib.hid (Hb3.out.trans (hb4.mono Hb3.out.size))
      have Hc4 := Lib.hid (Hc3.out.trans (hb4.mono Hc3.out.size))
      have OX0_4 := Lib.hid ho4
      clear ho4 hb4
      have k5 := Lib.hid (toIntS_any a1 n1 c1 x1 w4 hm1 (H1.out.below Hb4.out))
      go_wp2_with fail
      refine (k5.out).mono ?_
      rintro ee w5 ⟨rfl, ho5, hb5⟩
      have Z5 := Lib.hid hb5.size
      have Hb5 := Lib.hid (Hb4.out.trans (hb5.mono Hb4.out.size))
      have Hc5 := Lib.hid (Hc4.out.trans (hb5.mono Hc4.out.size))
      have OX0_5 := Lib.hid (ownsRow_below' OX0_4.out hb5)
      have OX1_5 := Lib.hid ho5
      clear ho5 hb5
      have k6 := Lib.hid (kI.out (some ⟨w3.heap.size, 0, none⟩) (some ⟨w4.heap.size, 0, none⟩) w5 (Sl.of_own OX0_5.out) (Sl.of_own OX1_5.out) (HT.out.below Hb5.out htl))
      go_wp2_with fail
      refine (k6.out).mono ?_
      rintro ee w6 ⟨aG, cG, rfl, ho6, hb6⟩
      have Z6 := Lib.hid hb6.size
      have Hb6 := Lib.hid (Hb5.out.trans (hb6.mono Hb5.out.size))
      have Hc6 := Lib.hid (Hc5.out.trans (hb6.mono Hc5.out.size))
      have OX0_6 := Lib.hid (ownsRow_below' OX0_5.out hb6)
      have OX1_6 := Lib.hid (ownsRow_below' OX1_5.out hb6)
      have OG_6 := Lib.hid ho6
      clear ho6 hb6
      have k7 := Lib.hid (eqIntS_any aG aW r.length cG r.length cW r r w6 (by omega) (Sl.of_own OG_6.out) (SW.out.below Hc6.out))
      rw [eqB_refl] at k7
      go_wp2_with fail
      refine (k7.out).mono ?_
      rintro ee w7 ⟨rfl, hb7⟩
      have Z7 := Lib.hid hb7.size
      have Hb7 := Lib.hid (Hb6.out.trans (hb7.mono Hb6.out.size))
      have Hc7 := Lib.hid (Hc6.out.trans (hb7.mono Hc6.out.size))
      have OX0_7 := Lib.hid (ownsRow_below' OX0_6.out hb7)
      have OX1_7 := Lib.hid (ownsRow_below' OX1_6.out hb7)
      have OG_7 := Lib.hid (ownsRow_below' OG_6.out hb7)
      clear hb7
      have k8 := Lib.hid (toIntS_any a0 n0 c0 x0 w7 hm0 (H0.out.below Hb7.out))
      go_wp2_with fail
      refine (k8.out).mono ?_
      rintro ee w8 ⟨rfl, ho8, hb8⟩
      have Z8 := Lib.hid hb8.size
      have Hb8 := Lib.hid (Hb7.out.trans (hb8.mono Hb7.out.size))
      have Hc8 := Lib.hid (Hc7.out.trans (hb8.mono Hc7.out.size))
      have OX0_8 := Lib.hid (ownsRow_below' OX0_7.out hb8)
      have OX1_8 := Lib.hid (ownsRow_below' OX1_7.out hb8)
      have OG_8 := Lib.hid (ownsRow_below' OG_7.out hb8)
      have OT_8 := Lib.hid ho8
      clear ho8 hb8
      have k9 := Lib.hid (eqIntS_any (some ⟨w3.heap.size, 0, none⟩) (some ⟨w7.heap.size, 0, none⟩) n0 n0 n0 n0 x0 x0 w8 (by omega) (Sl.of_own OX0_8.out) (Sl.of_own OT_8.out))
      rw [eqB_refl] at k9
      go_wp2_with fail
      refine (k9.out).mono ?_
      rintro ee w9 ⟨rfl, hb9⟩
      have Z9 := Lib.hid hb9.size
      have Hb9 := Lib.hid (Hb8.out.trans (hb9.mono Hb8.out.size))
      have Hc9 := Lib.hid (Hc8.out.trans (hb9.mono Hc8.out.size))
      have OX0_9 := Lib.hid (ownsRow_below' OX0_8.out hb9)
      have OX1_9 := Lib.hid (ownsRow_below' OX1_8.out hb9)
      have OG_9 := Lib.hid (ownsRow_below' OG_8.out hb9)
      have OT_9 := Lib.hid (ownsRow_below' OT_8.out hb9)
      clear hb9
      have k10 := Lib.hid (toIntS_any a1 n1 c1 x1 w9 hm1 (H1.out.below Hb9.out))
      go_wp2_with fail
      refine (k10.out).mono ?_
      rintro ee w10 ⟨rfl, ho10, hb10⟩
      have Z10 := Lib.hid hb10.size
      have Hb10 := Lib.hid (Hb9.out.trans (hb10.mono Hb9.out.size))
      have Hc10 := Lib.hid (Hc9.out.trans (hb10.mono Hc9.out.size))
      have OX0_10 := Lib.hid (ownsRow_below' OX0_9.out hb10)
      have OX1_10 := Lib.hid (ownsRow_below' OX1_9.out hb10)
      have OG_10 := Lib.hid (ownsRow_below' OG_9.out hb10)
      have OT_10 := Lib.hid ho10
      clear ho10 hb10
      have k11 := Lib.hid (eqIntS_any (some ⟨w4.heap.size, 0, none⟩) (some ⟨w9.heap.size, 0, none⟩) n1 n1 n1 n1 x1 x1 w10 (by omega) (Sl.of_own OX1_10.out) (Sl.of_own OT_10.out))
      rw [eqB_refl] at k11
      go_wp2_with fail
      refine (k11.out).mono ?_
      rintro ee w11 ⟨rfl, hb11⟩
      have Z11 := Lib.hid hb11.size
      have Hb11 := Lib.hid (Hb10.out.trans (hb11.mono Hb10.out.size))
      have Hc11 := Lib.hid (Hc10.out.trans (hb11.mono Hc10.out.size))
      have OX0_11 := Lib.hid (ownsRow_below' OX0_10.out hb11)
      have OX1_11 := Lib.hid (ownsRow_below' OX1_10.out hb11)
      have OG_11 := Lib.hid (ownsRow_below' OG_10.out hb11)
      have OT_11 := Lib.hid (ownsRow_below' OT_10.out hb11)
      clear hb11
      have k12 := Lib.hid (markIntS_any w3.heap.size (some ⟨w3.heap.size, 0, none⟩) n0 n0 x0 (1) w11 (by omega) (by omega) (by omega) OX0_11.out)
      go_wp2_with fail
      refine (k12.out).mono ?_
      rintro ee w12 ⟨rfl, _, hb12, hg12⟩
      have hU12 : w3.heap.size < w4.heap.size := (OX0_4.out.lt _ rfl).2
      have hm_12 := MidQ.of_grown hb12 hg12 hU12
      clear hg12 hU12
      have Z12 := Lib.hid hb12.size
      have Hb12 := Lib.hid (Hb11.out.trans (hb12.mono (by have z1 := Z1.out; have z2 := Z2.out; have z3 := Z3.out; omega)))
      have Hc12 := Lib.hid (Hc11.out.trans (hb12.mono (Nat.le_refl _)))
      have OX1_12 := Lib.hid (hm_12.own OX1_11.out (Nat.le_refl _))
      have OG_12 := Lib.hid (hm_12.own OG_11.out (by have z5 := Z5.out; omega))
      clear hb12 hm_12
      have k13 := Lib.hid (markIntS_any w4.heap.size (some ⟨w4.heap.size, 0, none⟩) n1 n1 x1 (1 + n0) w12 (by omega) (by omega) (by omega) OX1_12.out)
      go_wp2_with fail
      refine (k13.out).mono ?_
      rintro ee w13 ⟨rfl, _, hb13, hg13⟩
      have hU13 : w4.heap.size < w5.heap.size := (OX1_5.out.lt _ rfl).2
      have hm_13 := MidQ.of_grown hb13 hg13 hU13
      clear hg13 hU13
      have Z13 := Lib.hid hb13.size
      have Hb13 := Lib.hid (Hb12.out.trans (hb13.mono (by have z1 := Z1.out; have z2 := Z2.out; have z3 := Z3.out; have z4 := Z4.out; omega)))
      have Hc13 := Lib.hid (Hc12.out.trans (hb13.mono (by have z4 := Z4.out; omega)))
      have OG_13 := Lib.hid (hm_13.own OG_12.out (Nat.le_refl _))
      clear hb13 hm_13
      have hkk : ¬ ((1 + n0 + n1 : Int) < 0) := by omega
      have k14 := Lib.hid (eqIntS_any aG aW r.length cG r.length cW r r w13 (by omega) (Sl.of_own OG_13.out) (SW.out.below Hc13.out))
      rw [eqB_refl] at k14
      go_wp2_with fail
      refine (k14.out).mono ?_
      rintro ee w14 ⟨rfl, hb14⟩
      have Z14 := Lib.hid hb14.size
      have Hb14 := Lib.hid (Hb13.out.trans (hb14.mono Hb13.out.size))
      have Hc14 := Lib.hid (Hc13.out.trans (hb14.mono Hc13.out.size))
      have OG_14 := Lib.hid (ownsRow_below' OG_13.out hb14)
      clear hb14
      have k15 := Lib.hid (markIntS_any w5.heap.size aG r.length cG r 1 w14 (by omega) (by decide) (by decide) OG_14.out)
      go_wp2_with fail
      refine (k15.out).mono ?_
      rintro ee w15 ⟨rfl, ho15, hb15, _⟩
      have Z15 := Lib.hid hb15.size
      have Hb15 := Lib.hid (Hb14.out.trans (hb15.mono (by have z1 := Z1.out; have z2 := Z2.out; have z3 := Z3.out; have z4 := Z4.out; have z5 := Z5.out; omega)))
      have Hc15 := Lib.hid (Hc14.out.trans (hb15.mono (by have z4 := Z4.out; have z5 := Z5.out; omega)))
      have OG_15 := Lib.hid ho15
      clear ho15 hb15
      have hge3 : ¬ ((1 : Int) + (r.length : Int) < 0) := by omega
      have k16 := Lib.hid (heldIntS_any aG r.length cG 1 w15 (by omega) (by decide) (by decide) (Sl.of_own OG_15.out))
      go_wp2_with fail
      refine (k16.out).mono ?_
      rintro ee w16 ⟨rfl, hb16⟩
      have Z16 := Lib.hid hb16.size
      have Hb16 := Lib.hid (Hb15.out.trans (hb16.mono Hb15.out.size))
      have Hc16 := Lib.hid (Hc15.out.trans (hb16.mono Hc15.out.size))
      have OG_16 := Lib.hid (ownsRow_below' OG_15.out hb16)
      clear hb16
      have k17 := Lib.hid (toIntS_any a0 n0 c0 x0 w16 hm0 (H0.out.below Hb16.out))
      go_wp2_with fail
      refine (k17.out).mono ?_
      rintro ee w17 ⟨rfl, ho17, hb17⟩
      have Z17 := Lib.hid hb17.size
      have Hb17 := Lib.hid (Hb16.out.trans (hb17.mono Hb16.out.size))
      have Hc17 := Lib.hid (Hc16.out.trans (hb17.mono Hc16.out.size))
      have OG_17 := Lib.hid (ownsRow_below' OG_16.out hb17)
      have OX0_17 := Lib.hid ho17
      clear ho17 hb17
      have k18 := Lib.hid (toIntS_any a1 n1 c1 x1 w17 hm1 (H1.out.below Hb17.out))
      go_wp2_with fail
      refine (k18.out).mono ?_
      rintro ee w18 ⟨rfl, ho18, hb18⟩
      have Z18 := Lib.hid hb18.size
      have Hb18 := Lib.hid (Hb17.out.trans (hb18.mono Hb17.out.size))
      have Hc18 := Lib.hid (Hc17.out.trans (hb18.mono Hc17.out.size))
      have OG_18 := Lib.hid (ownsRow_below' OG_17.out hb18)
      have OX0_18 := Lib.hid (ownsRow_below' OX0_17.out hb18)
      have OX1_18 := Lib.hid ho18
      clear ho18 hb18
      have k19 := Lib.hid (kI.out (some ⟨w16.heap.size, 0, none⟩) (some ⟨w17.heap.size, 0, none⟩) w18 (Sl.of_own OX0_18.out) (Sl.of_own OX1_18.out) (HT.out.below Hb18.out htl))
      go_wp2_with fail
      refine (k19.out).mono ?_
      rintro ee w19 ⟨aV, cV, rfl, ho19, hb19⟩
      have Z19 := Lib.hid hb19.size
      have Hb19 := Lib.hid (Hb18.out.trans (hb19.mono Hb18.out.size))
      have Hc19 := Lib.hid (Hc18.out.trans (hb19.mono Hc18.out.size))
      have OG_19 := Lib.hid (ownsRow_below' OG_18.out hb19)
      have OX0_19 := Lib.hid (ownsRow_below' OX0_18.out hb19)
      have OX1_19 := Lib.hid (ownsRow_below' OX1_18.out hb19)
      have OV_19 := Lib.hid ho19
      clear ho19 hb19
      have k20 := Lib.hid (eqIntS_any aV aW r.length cV r.length cW r r w19 (by omega) (Sl.of_own OV_19.out) (SW.out.below Hc19.out))
      rw [eqB_refl] at k20
      go_wp2_with fail
      refine (k20.out).mono ?_
      rintro ee w20 ⟨rfl, hb20⟩
      have Z20 := Lib.hid hb20.size
      have Hb20 := Lib.hid (Hb19.out.trans (hb20.mono Hb19.out.size))
      have Hc20 := Lib.hid (Hc19.out.trans (hb20.mono Hc19.out.size))
      have OG_20 := Lib.hid (ownsRow_below' OG_19.out hb20)
      have OV_20 := Lib.hid (ownsRow_below' OV_19.out hb20)
      clear hb20
      have k21 := Lib.hid (heldIntS_any aG r.length cG 1 w20 (by omega) (by decide) (by decide) (Sl.of_own OG_20.out))
      go_wp2_with fail
      refine (k21.out).mono ?_
      rintro ee w21 ⟨rfl, hb21⟩
      have Z21 := Lib.hid hb21.size
      have Hb21 := Lib.hid (Hb20.out.trans (hb21.mono Hb20.out.size))
      have Hc21 := Lib.hid (Hc20.out.trans (hb21.mono Hc20.out.size))
      have OG_21 := Lib.hid (ownsRow_below' OG_20.out hb21)
      clear hb21
      go_wp2_with fail
      go_ret
      exact ⟨rfl, Hb21.out⟩
    · have hgt1 : (1048576 : Int) < n1 := by omega
      have hle0 : (n0 : Int) ≤ 1048576 := by omega
      go_enter Tryd.func5, Tryd.ntmps5
      go_wp2_with fail
      go_ret
      exact ⟨rfl, Below.refl _ _⟩
  · have hgt0 : (1048576 : Int) < n0 := by omega
    go_enter Tryd.func5, Tryd.ntmps5
    go_wp2_with fail
    go_ret
    exact ⟨rfl, Below.refl _ _⟩

end Go.Proofs.YtphcgmelaghbdaaDoor

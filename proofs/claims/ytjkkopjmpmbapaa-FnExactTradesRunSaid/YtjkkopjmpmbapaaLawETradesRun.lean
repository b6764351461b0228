/- FnExactTradesRun: the walk of the law. -/
import Derived.Test.YtjkkopjmpmbapaaTrRX
namespace Go.Proofs.Ytjkkopjmpmbapaa
set_option maxRecDepth 100000
open Go.RowKit

set_option maxHeartbeats 4000000 in
theorem exactTradesRun_walk (a0 : Option Addr) (n0 c0 : Nat) (x0 : List Int) (a1 : Option Addr) (n1 c1 : Nat) (x1 : List Tr) (a2 : Option Addr) (n2 c2 : Nat) (x2 : List Int) (w : World) (h0 : Sl w a0 n0 c0 x0) (h1 : SlT w a1 n1 c1 x1) (h2 : Sl w a2 n2 c2 x2) (hw2 : ∀ x ∈ x2, -9223372036854775808 ≤ x ∧ x ≤ 9223372036854775807) :
    Calls Try.prog 9 #[.slice a0 n0 c0, .slice a1 n1 c1, .slice a2 n2 c2] w fun e w' => e = .returned (.bool true) ∧ Below w.heap.size w w' := by
  have H0 := Lib.hid h0
  have H1 := Lib.hid h1
  have H2 := Lib.hid h2
  have HW2 := Lib.hid hw2
  clear h0 h1 h2 hw2
  by_cases hn0 : n0 ≤ 1048576
  · skip
    have hm0 : n0 ≤ 1000000000000 := by omega
    by_cases hn2 : n2 ≤ 1048576
    · skip
      have hm2 : n2 ≤ 1000000000000 := by omega
      obtain ⟨r, hr⟩ : ∃ r, r = runR x0 x1 x2 := ⟨_, rfl⟩
      obtain ⟨o, ho⟩ : ∃ o, o = runB x0 x1 x2 := ⟨_, rfl⟩
      have hrl : r.length ≤ 1000 := by rw [hr]; exact (Nat.le_trans runR_le (by decide))
      go_enter Try.func9, Try.ntmps9
      have k1 := Lib.hid (szTradeS_any a1 n1 c1 x1 (1048576 : Int) w H1.out (by omega) (by omega))
      go_wp2_with fail
      refine (k1.out).mono ?_
      rintro ee w1 ⟨rfl, hb1⟩
      have Z1 := Lib.hid hb1.size
      have Hb1 := Lib.hid (hb1)
      clear hb1
      by_cases hs1 : ((n1 + szTs x1 : Nat) : Int) ≤ (1048576 : Int)
      · rw [szI_yes hs1]
        obtain ⟨z1, ez1⟩ : ∃ q, q = (1048576 : Int) - ((n1 + szTs x1 : Nat) : Int) := ⟨_, rfl⟩
        have hz1 : ¬ (z1 < 0) := by omega
        have hn1 : n1 ≤ 1048576 := by omega
        have hb_1 := Lib.hid (szTs_bl (show szTs x1 ≤ 1048576 by omega))
        have ht1 : szTs x1 ≤ 1048576 := by omega
        rw [← ez1]
        have hzm1 : z1 ≤ 1048576 := by omega
        clear ez1 hs1
        have HT1 := Lib.hid ht1
        clear ht1
        have kS := Lib.hid (fun (A0 : Option Addr) (A1 : Option Addr) (A2 : Option Addr) w (s0 : Sl w A0 n0 n0 x0) (s1 : SlT w A1 n1 n1 x1) (s2 : Sl w A2 n2 n2 x2) => spec_TradesRun A0 n0 n0 x0 A1 n1 n1 x1 A2 n2 n2 x2 w hn1 s0 s1 s2)
        have kI := Lib.hid (fun (A0 : Option Addr) (A1 : Option Addr) (A2 : Option Addr) w (s0 : Sl w A0 n0 n0 x0) (s1 : SlT w A1 n1 n1 x1) (s2 : Sl w A2 n2 n2 x2) => impl_TradesRun A0 n0 n0 x0 A1 n1 n1 x1 A2 n2 n2 x2 w hn0 hn1 hb_1.out HW2.out s0 s1 s2)
        unfold TdPost at kS kI
        rw [← hr, ← ho] at kS kI
        clear hr ho
        have k2 := Lib.hid (toIntS_any a0 n0 c0 x0 w1 hm0 (H0.out.below Hb1.out))
        go_wp2_with fail
        refine (k2.out).mono ?_
        rintro ee w2 ⟨rfl, ho2, hb2⟩
        have Z2 := Lib.hid hb2.size
        have Hb2 := Lib.hid (Hb1.out.trans (hb2.mono Hb1.out.size))
        have OX0_2 := Lib.hid ho2
        clear ho2 hb2
        have k3 := Lib.hid (toTradeS_any a1 n1 c1 x1 w2 hn1 hb_1.out (H1.out.below Hb2.out))
        go_wp2_with fail
        refine (k3.out).mono ?_
        rintro ee w3 ⟨v3, rfl, hq3, hb3⟩
        have Z3 := Lib.hid hb3.size
        have Hb3 := Lib.hid (Hb2.out.trans (hb3.mono Hb2.out.size))
        have OX0_3 := Lib.hid (ownsRow_below' OX0_2.out hb3)
        obtain ⟨g3, e3, _⟩ := hq3.parts
        subst e3
        have OX1_3 := Lib.hid hq3
        clear hq3 hb3
        have k4 := Lib.hid (toIntS_any a2 n2 c2 x2 w3 hm2 (H2.out.below Hb3.out))
        go_wp2_with fail
        refine (k4.out).mono ?_
        rintro ee w4 ⟨rfl, ho4, hb4⟩
        have Z4 := Lib.hid hb4.size
        have Hb4 := Lib.hid (Hb3.out.trans (hb4.mono Hb3.out.size))
        have OX0_4 := Lib.hid (ownsRow_below' OX0_3.out hb4)
        have OX1_4 := Lib.hid (TsCopy.below OX1_3.out hb4)
        have OX2_4 := Lib.hid ho4
        clear ho4 hb4
        have k5 := Lib.hid (kS.out (some ⟨w1.heap.size, 0, none⟩) (some ⟨g3, 0, none⟩) (some ⟨w3.heap.size, 0, none⟩) w4 (Sl.of_own OX0_4.out) OX1_4.out.sl (Sl.of_own OX2_4.out))
        go_wp2_with fail
        refine (k5.out).mono ?_
        rintro ee w5 ⟨aW, cW, rfl, ho5, hb5⟩
        have Z5 := Lib.hid hb5.size
        have Hb5 := Lib.hid (Hb4.out.trans (hb5.mono Hb4.out.size))
        have OX0_5 := Lib.hid (ownsRow_below' OX0_4.out hb5)
        have OX1_5 := Lib.hid (TsCopy.below OX1_4.out hb5)
        have OX2_5 := Lib.hid (ownsRow_below' OX2_4.out hb5)
        have OW_5 := Lib.hid ho5
        clear ho5 hb5
        have SW := Lib.hid (Sl.of_own OW_5.out)
        have Hc5 := Lib.hid (Below.refl w5.heap.size w5)
        have k6 := Lib.hid (toIntS_any a0 n0 c0 x0 w5 hm0 (H0.out.below Hb5.out))
        go_wp2_with fail
        refine (k6.out).mono ?_
        rintro ee w6 ⟨rfl, ho6, hb6⟩
        have Z6 := Lib.hid hb6.size
        have Hb6 := Lib.hid (Hb5.out.trans (hb6.mono Hb5.out.size))
        have Hc6 := Lib.hid (Hc5.out.trans (hb6.mono Hc5.out.size))
        have OX0_6 := Lib.hid ho6
        clear ho6 hb6
        have k7 := Lib.hid (toTradeS_any a1 n1 c1 x1 w6 hn1 hb_1.out (H1.out.below Hb6.out))
        go_wp2_with fail
        refine (k7.out).mono ?_
        rintro ee w7 ⟨v7, rfl, hq7, hb7⟩
        have Z7 := Lib.hid hb7.size
        have Hb7 := Lib.hid (Hb6.out.trans (hb7.mono Hb6.out.size))
        have Hc7 := Lib.hid (Hc6.out.trans (hb7.mono Hc6.out.size))
        have OX0_7 := Lib.hid (ownsRow_below' OX0_6.out hb7)
        obtain ⟨g7, e7, _⟩ := hq7.parts
        subst e7
        have OX1_7 := Lib.hid hq7
        clear hq7 hb7
        have k8 := Lib.hid (toIntS_any a2 n2 c2 x2 w7 hm2 (H2.out.below Hb7.out))
        go_wp2_with fail
        refine (k8.out).mono ?_
        rintro ee w8 ⟨rfl, ho8, hb8⟩
        have Z8 := Lib.hid hb8.size
        have Hb8 := Lib.hid (Hb7.out.trans (hb8.mono Hb7.out.size))
        have Hc8 := Lib.hid (Hc7.out.trans (hb8.mono Hc7.out.size))
        have OX0_8 := Lib.hid (ownsRow_below' OX0_7.out hb8)
        have OX1_8 := Lib.hid (TsCopy.below OX1_7.out hb8)
        have OX2_8 := Lib.hid ho8
        clear ho8 hb8
        have k9 := Lib.hid (kI.out (some ⟨w5.heap.size, 0, none⟩) (some ⟨g7, 0, none⟩) (some ⟨w7.heap.size, 0, none⟩) w8 (Sl.of_own OX0_8.out) OX1_8.out.sl (Sl.of_own OX2_8.out))
        go_wp2_with fail
        refine (k9.out).mono ?_
        rintro ee w9 ⟨aG, cG, rfl, ho9, hb9⟩
        have Z9 := Lib.hid hb9.size
        have Hb9 := Lib.hid (Hb8.out.trans (hb9.mono Hb8.out.size))
        have Hc9 := Lib.hid (Hc8.out.trans (hb9.mono Hc8.out.size))
        have OX0_9 := Lib.hid (ownsRow_below' OX0_8.out hb9)
        have OX1_9 := Lib.hid (TsCopy.below OX1_8.out hb9)
        have OX2_9 := Lib.hid (ownsRow_below' OX2_8.out hb9)
        have OG_9 := Lib.hid ho9
        clear ho9 hb9
        have hne : (o != o) = false := by simp
        have k10 := Lib.hid (eqIntS_any aG aW r.length cG r.length cW r r w9 (by omega) (Sl.of_own OG_9.out) (SW.out.below Hc9.out))
        rw [eqB_refl] at k10
        go_wp2_with fail
        refine (k10.out).mono ?_
        rintro ee w10 ⟨rfl, hb10⟩
        have Z10 := Lib.hid hb10.size
        have Hb10 := Lib.hid (Hb9.out.trans (hb10.mono Hb9.out.size))
        have Hc10 := Lib.hid (Hc9.out.trans (hb10.mono Hc9.out.size))
        have OX0_10 := Lib.hid (ownsRow_below' OX0_9.out hb10)
        have OX1_10 := Lib.hid (TsCopy.below OX1_9.out hb10)
        have OX2_10 := Lib.hid (ownsRow_below' OX2_9.out hb10)
        have OG_10 := Lib.hid (ownsRow_below' OG_9.out hb10)
        clear hb10
        have k11 := Lib.hid (toIntS_any a0 n0 c0 x0 w10 hm0 (H0.out.below Hb10.out))
        go_wp2_with fail
        refine (k11.out).mono ?_
        rintro ee w11 ⟨rfl, ho11, hb11⟩
        have Z11 := Lib.hid hb11.size
        have Hb11 := Lib.hid (Hb10.out.trans (hb11.mono Hb10.out.size))
        have Hc11 := Lib.hid (Hc10.out.trans (hb11.mono Hc10.out.size))
        have OX0_11 := Lib.hid (ownsRow_below' OX0_10.out hb11)
        have OX1_11 := Lib.hid (TsCopy.below OX1_10.out hb11)
        have OX2_11 := Lib.hid (ownsRow_below' OX2_10.out hb11)
        have OG_11 := Lib.hid (ownsRow_below' OG_10.out hb11)
        have OT_11 := Lib.hid ho11
        clear ho11 hb11
        have k12 := Lib.hid (eqIntS_any (some ⟨w5.heap.size, 0, none⟩) (some ⟨w10.heap.size, 0, none⟩) n0 n0 n0 n0 x0 x0 w11 (by omega) (Sl.of_own OX0_11.out) (Sl.of_own OT_11.out))
        rw [eqB_refl] at k12
        go_wp2_with fail
        refine (k12.out).mono ?_
        rintro ee w12 ⟨rfl, hb12⟩
        have Z12 := Lib.hid hb12.size
        have Hb12 := Lib.hid (Hb11.out.trans (hb12.mono Hb11.out.size))
        have Hc12 := Lib.hid (Hc11.out.trans (hb12.mono Hc11.out.size))
        have OX0_12 := Lib.hid (ownsRow_below' OX0_11.out hb12)
        have OX1_12 := Lib.hid (TsCopy.below OX1_11.out hb12)
        have OX2_12 := Lib.hid (ownsRow_below' OX2_11.out hb12)
        have OG_12 := Lib.hid (ownsRow_below' OG_11.out hb12)
        have OT_12 := Lib.hid (ownsRow_below' OT_11.out hb12)
        clear hb12
        have k13 := Lib.hid (toTradeS_any a1 n1 c1 x1 w12 hn1 hb_1.out (H1.out.below Hb12.out))
        go_wp2_with fail
        refine (k13.out).mono ?_
        rintro ee w13 ⟨v13, rfl, hq13, hb13⟩
        have Z13 := Lib.hid hb13.size
        have Hb13 := Lib.hid (Hb12.out.trans (hb13.mono Hb12.out.size))
        have Hc13 := Lib.hid (Hc12.out.trans (hb13.mono Hc12.out.size))
        have OX0_13 := Lib.hid (ownsRow_below' OX0_12.out hb13)
        have OX1_13 := Lib.hid (TsCopy.below OX1_12.out hb13)
        have OX2_13 := Lib.hid (ownsRow_below' OX2_12.out hb13)
        have OG_13 := Lib.hid (ownsRow_below' OG_12.out hb13)
        obtain ⟨g13, e13, _⟩ := hq13.parts
        subst e13
        have OT_13 := Lib.hid hq13
        clear hq13 hb13
        have k14 := Lib.hid (eqTradeS_same (some ⟨g7, 0, none⟩) (some ⟨g13, 0, none⟩) n1 n1 n1 x1 w13 hn1 hb_1.out OX1_13.out.sl OT_13.out.sl)
        go_wp2_with fail
        refine (k14.out).mono ?_
        rintro ee w14 ⟨rfl, hb14⟩
        have Z14 := Lib.hid hb14.size
        have Hb14 := Lib.hid (Hb13.out.trans (hb14.mono Hb13.out.size))
        have Hc14 := Lib.hid (Hc13.out.trans (hb14.mono Hc13.out.size))
        have OX0_14 := Lib.hid (ownsRow_below' OX0_13.out hb14)
        have OX1_14 := Lib.hid (TsCopy.below OX1_13.out hb14)
        have OX2_14 := Lib.hid (ownsRow_below' OX2_13.out hb14)
        have OG_14 := Lib.hid (ownsRow_below' OG_13.out hb14)
        have OT_14 := Lib.hid (TsCopy.below OT_13.out hb14)
        clear hb14
        have k15 := Lib.hid (toIntS_any a2 n2 c2 x2 w14 hm2 (H2.out.below Hb14.out))
        go_wp2_with fail
        refine (k15.out).mono ?_
        rintro ee w15 ⟨rfl, ho15, hb15⟩
        have Z15 := Lib.hid hb15.size
        have Hb15 := Lib.hid (Hb14.out.trans (hb15.mono Hb14.out.size))
        have Hc15 := Lib.hid (Hc14.out.trans (hb15.mono Hc14.out.size))
        have OX0_15 := Lib.hid (ownsRow_below' OX0_14.out hb15)
        have OX1_15 := Lib.hid (TsCopy.below OX1_14.out hb15)
        have OX2_15 := Lib.hid (ownsRow_below' OX2_14.out hb15)
        have OG_15 := Lib.hid (ownsRow_below' OG_14.out hb15)
        have OT_15 := Lib.hid ho15
        clear ho15 hb15
        have k16 := Lib.hid (eqIntS_any (some ⟨w7.heap.size, 0, none⟩) (some ⟨w14.heap.size, 0, none⟩) n2 n2 n2 n2 x2 x2 w15 (by omega) (Sl.of_own OX2_15.out) (Sl.of_own OT_15.out))
        rw [eqB_refl] at k16
        go_wp2_with fail
        refine (k16.out).mono ?_
        rintro ee w16 ⟨rfl, hb16⟩
        have Z16 := Lib.hid hb16.size
        have Hb16 := Lib.hid (Hb15.out.trans (hb16.mono Hb15.out.size))
        have Hc16 := Lib.hid (Hc15.out.trans (hb16.mono Hc15.out.size))
        have OX0_16 := Lib.hid (ownsRow_below' OX0_15.out hb16)
        have OX1_16 := Lib.hid (TsCopy.below OX1_15.out hb16)
        have OX2_16 := Lib.hid (ownsRow_below' OX2_15.out hb16)
        have OG_16 := Lib.hid (ownsRow_below' OG_15.out hb16)
        have OT_16 := Lib.hid (ownsRow_below' OT_15.out hb16)
        clear hb16
        have k17 := Lib.hid (markIntS_any w5.heap.size (some ⟨w5.heap.size, 0, none⟩) n0 n0 x0 (1) w16 (by omega) (by omega) (by omega) OX0_16.out)
        go_wp2_with fail
        refine (k17.out).mono ?_
        rintro ee w17 ⟨rfl, _, hb17, hg17⟩
        have hU17 : w5.heap.size < w6.heap.size := (OX0_6.out.lt _ rfl).2
        have hm_17 := Mid.of_grown hb17 hg17 hU17
        clear hg17 hU17
        have Z17 := Lib.hid hb17.size
        have Hb17 := Lib.hid (Hb16.out.trans (hb17.mono (by have z1 := Z1.out; have z2 := Z2.out; have z3 := Z3.out; have z4 := Z4.out; have z5 := Z5.out; omega)))
        have Hc17 := Lib.hid (Hc16.out.trans (hb17.mono (Nat.le_refl _)))
        have OX1_17 := Lib.hid (OX1_16.out.mid hm_17 (Nat.le_refl _))
        have OX2_17 := Lib.hid (hm_17.own OX2_16.out (by have z7 := Z7.out; omega))
        have OG_17 := Lib.hid (hm_17.own OG_16.out (by have z7 := Z7.out; have z8 := Z8.out; omega))
        clear hb17 hm_17
        have k18 := Lib.hid (markTradeS_any w6.heap.size w7.heap.size _ n1 x1 (1 + n0) w17 hn1 HT1.out (by omega) (by omega) OX1_17.out)
        go_wp2_with fail
        refine (k18.out).mono ?_
        rintro ee w18 ⟨y18, rfl, hy18, hy18', hm_18⟩
        have hb18 := hm_18.below
        have hyb18 : y18 ≤ 10000000 := by have := HT1.out; omega
        clear hy18'
        have Z18 := Lib.hid hb18.size
        have Hb18 := Lib.hid (Hb17.out.trans (hb18.mono (by have z1 := Z1.out; have z2 := Z2.out; have z3 := Z3.out; have z4 := Z4.out; have z5 := Z5.out; have z6 := Z6.out; omega)))
        have Hc18 := Lib.hid (Hc17.out.trans (hb18.mono (by have z6 := Z6.out; omega)))
        have OX2_18 := Lib.hid (hm_18.own OX2_17.out (Nat.le_refl _))
        have OG_18 := Lib.hid (hm_18.own OG_17.out (by have z8 := Z8.out; omega))
        clear hb18 hm_18
        have k19 := Lib.hid (markIntS_any w7.heap.size (some ⟨w7.heap.size, 0, none⟩) n2 n2 x2 (y18) w18 (by omega) (by omega) (by omega) OX2_18.out)
        go_wp2_with fail
        refine (k19.out).mono ?_
        rintro ee w19 ⟨rfl, _, hb19, hg19⟩
        have hU19 : w7.heap.size < w8.heap.size := (OX2_8.out.lt _ rfl).2
        have hm_19 := Mid.of_grown hb19 hg19 hU19
        clear hg19 hU19
        have Z19 := Lib.hid hb19.size
        have Hb19 := Lib.hid (Hb18.out.trans (hb19.mono (by have z1 := Z1.out; have z2 := Z2.out; have z3 := Z3.out; have z4 := Z4.out; have z5 := Z5.out; have z6 := Z6.out; have z7 := Z7.out; omega)))
        have Hc19 := Lib.hid (Hc18.out.trans (hb19.mono (by have z6 := Z6.out; have z7 := Z7.out; omega)))
        have OG_19 := Lib.hid (hm_19.own OG_18.out (Nat.le_refl _))
        clear hb19 hm_19
        have hkk : ¬ ((y18 + n2 : Int) < 0) := by omega
        have k20 := Lib.hid (eqIntS_any aG aW r.length cG r.length cW r r w19 (by omega) (Sl.of_own OG_19.out) (SW.out.below Hc19.out))
        rw [eqB_refl] at k20
        go_wp2_with fail
        refine (k20.out).mono ?_
        rintro ee w20 ⟨rfl, hb20⟩
        have Z20 := Lib.hid hb20.size
        have Hb20 := Lib.hid (Hb19.out.trans (hb20.mono Hb19.out.size))
        have Hc20 := Lib.hid (Hc19.out.trans (hb20.mono Hc19.out.size))
        have OG_20 := Lib.hid (ownsRow_below' OG_19.out hb20)
        clear hb20
        have k21 := Lib.hid (markIntS_any w8.heap.size aG r.length cG r 1 w20 (by omega) (by decide) (by decide) OG_20.out)
        go_wp2_with fail
        refine (k21.out).mono ?_
        rintro ee w21 ⟨rfl, ho21, hb21, _⟩
        have Z21 := Lib.hid hb21.size
        have Hb21 := Lib.hid (Hb20.out.trans (hb21.mono (by have z1 := Z1.out; have z2 := Z2.out; have z3 := Z3.out; have z4 := Z4.out; have z5 := Z5.out; have z6 := Z6.out; have z7 := Z7.out; have z8 := Z8.out; omega)))
        have Hc21 := Lib.hid (Hc20.out.trans (hb21.mono (by have z6 := Z6.out; have z7 := Z7.out; have z8 := Z8.out; omega)))
        have OG_21 := Lib.hid ho21
        clear ho21 hb21
        have hge3 : ¬ ((1 : Int) + (r.length : Int) < 0) := by omega
        have k22 := Lib.hid (heldIntS_any aG r.length cG 1 w21 (by omega) (by decide) (by decide) (Sl.of_own OG_21.out))
        go_wp2_with fail
        refine (k22.out).mono ?_
        rintro ee w22 ⟨rfl, hb22⟩
        have Z22 := Lib.hid hb22.size
        have Hb22 := Lib.hid (Hb21.out.trans (hb22.mono Hb21.out.size))
        have Hc22 := Lib.hid (Hc21.out.trans (hb22.mono Hc21.out.size))
        have OG_22 := Lib.hid (ownsRow_below' OG_21.out hb22)
        clear hb22
        have k23 := Lib.hid (toIntS_any a0 n0 c0 x0 w22 hm0 (H0.out.below Hb22.out))
        go_wp2_with fail
        refine (k23.out).mono ?_
        rintro ee w23 ⟨rfl, ho23, hb23⟩
        have Z23 := Lib.hid hb23.size
        have Hb23 := Lib.hid (Hb22.out.trans (hb23.mono Hb22.out.size))
        have Hc23 := Lib.hid (Hc22.out.trans (hb23.mono Hc22.out.size))
        have OG_23 := Lib.hid (ownsRow_below' OG_22.out hb23)
        have OX0_23 := Lib.hid ho23
        clear ho23 hb23
        have k24 := Lib.hid (toTradeS_any a1 n1 c1 x1 w23 hn1 hb_1.out (H1.out.below Hb23.out))
        go_wp2_with fail
        refine (k24.out).mono ?_
        rintro ee w24 ⟨v24, rfl, hq24, hb24⟩
        have Z24 := Lib.hid hb24.size
        have Hb24 := Lib.hid (Hb23.out.trans (hb24.mono Hb23.out.size))
        have Hc24 := Lib.hid (Hc23.out.trans (hb24.mono Hc23.out.size))
        have OG_24 := Lib.hid (ownsRow_below' OG_23.out hb24)
        have OX0_24 := Lib.hid (ownsRow_below' OX0_23.out hb24)
        obtain ⟨g24, e24, _⟩ := hq24.parts
        subst e24
        have OX1_24 := Lib.hid hq24
        clear hq24 hb24
        have k25 := Lib.hid (toIntS_any a2 n2 c2 x2 w24 hm2 (H2.out.below Hb24.out))
        go_wp2_with fail
        refine (k25.out).mono ?_
        rintro ee w25 ⟨rfl, ho25, hb25⟩
        have Z25 := Lib.hid hb25.size
        have Hb25 := Lib.hid (Hb24.out.trans (hb25.mono Hb24.out.size))
        have Hc25 := Lib.hid (Hc24.out.trans (hb25.mono Hc24.out.size))
        have OG_25 := Lib.hid (ownsRow_below' OG_24.out hb25)
        have OX0_25 := Lib.hid (ownsRow_below' OX0_24.out hb25)
        have OX1_25 := Lib.hid (TsCopy.below OX1_24.out hb25)
        have OX2_25 := Lib.hid ho25
        clear ho25 hb25
        have k26 := Lib.hid (kI.out (some ⟨w22.heap.size, 0, none⟩) (some ⟨g24, 0, none⟩) (some ⟨w24.heap.size, 0, none⟩) w25 (Sl.of_own OX0_25.out) OX1_25.out.sl (Sl.of_own OX2_25.out))
        go_wp2_with fail
        refine (k26.out).mono ?_
        rintro ee w26 ⟨aV, cV, rfl, ho26, hb26⟩
        have Z26 := Lib.hid hb26.size
        have Hb26 := Lib.hid (Hb25.out.trans (hb26.mono Hb25.out.size))
        have Hc26 := Lib.hid (Hc25.out.trans (hb26.mono Hc25.out.size))
        have OG_26 := Lib.hid (ownsRow_below' OG_25.out hb26)
        have OX0_26 := Lib.hid (ownsRow_below' OX0_25.out hb26)
        have OX1_26 := Lib.hid (TsCopy.below OX1_25.out hb26)
        have OX2_26 := Lib.hid (ownsRow_below' OX2_25.out hb26)
        have OV_26 := Lib.hid ho26
        clear ho26 hb26
        have k27 := Lib.hid (eqIntS_any aV aW r.length cV r.length cW r r w26 (by omega) (Sl.of_own OV_26.out) (SW.out.below Hc26.out))
        rw [eqB_refl] at k27
        go_wp2_with fail
        refine (k27.out).mono ?_
        rintro ee w27 ⟨rfl, hb27⟩
        have Z27 := Lib.hid hb27.size
        have Hb27 := Lib.hid (Hb26.out.trans (hb27.mono Hb26.out.size))
        have Hc27 := Lib.hid (Hc26.out.trans (hb27.mono Hc26.out.size))
        have OG_27 := Lib.hid (ownsRow_below' OG_26.out hb27)
        have OV_27 := Lib.hid (ownsRow_below' OV_26.out hb27)
        clear hb27
        have k28 := Lib.hid (heldIntS_any aG r.length cG 1 w27 (by omega) (by decide) (by decide) (Sl.of_own OG_27.out))
        go_wp2_with fail
        refine (k28.out).mono ?_
        rintro ee w28 ⟨rfl, hb28⟩
        have Z28 := Lib.hid hb28.size
        have Hb28 := Lib.hid (Hb27.out.trans (hb28.mono Hb27.out.size))
        have Hc28 := Lib.hid (Hc27.out.trans (hb28.mono Hc27.out.size))
        have OG_28 := Lib.hid (ownsRow_below' OG_27.out hb28)
        clear hb28
        go_wp2_with fail
        go_ret
        exact ⟨rfl, Hb28.out⟩
      · rw [szI_no hs1]
        go_wp2_with fail
        go_ret
        exact ⟨rfl, Hb1.out⟩
    · have hgt2 : (1048576 : Int) < n2 := by omega
      have hle0 : (n0 : Int) ≤ 1048576 := by omega
      go_enter Try.func9, Try.ntmps9
      go_wp2_with fail
      go_ret
      exact ⟨rfl, Below.refl _ _⟩
  · have hgt0 : (1048576 : Int) < n0 := by omega
    go_enter Try.func9, Try.ntmps9
    go_wp2_with fail
    go_ret
    exact ⟨rfl, Below.refl _ _⟩

end Go.Proofs.Ytjkkopjmpmbapaa

/- FnExactCircleOf: the walk of the law. -/
import Derived.Test.YtphcgmelaghbdaaDoorRelCq
namespace Go.Proofs.YtphcgmelaghbdaaDoor
set_option maxRecDepth 100000
open Go.RowKit

set_option maxHeartbeats 4000000 in
theorem exactCircleOf_walk (a0 : Option Addr) (n0 c0 : Nat) (x0 : List Int) (w : World) (h0 : Sl w a0 n0 c0 x0) (hT : Tab w) :
    Calls Tryd.prog 3 #[.slice a0 n0 c0] w fun e w' => e = .returned (.bool true) ∧ Below w.heap.size w w' := by
  have H0 := Lib.hid h0
  clear h0
  by_cases hn0 : n0 ≤ 1048576
  · skip
    have hm0 : n0 ≤ 1000000000000 := by omega
    have HT := Lib.hid hT
    have htl := hT.lt
    clear hT
    go_enter Tryd.func3, Tryd.ntmps3
    have kS := Lib.hid (fun (A0 : Option Addr) w (s0 : Sl w A0 n0 n0 x0) => spec_CircleOf A0 n0 n0 x0 w s0)
    have kI := Lib.hid (fun (A0 : Option Addr) w (s0 : Sl w A0 n0 n0 x0) (hx : Tab w) => implq_CircleOf A0 n0 n0 x0 w s0 hx)
    unfold CirPost at kS
    unfold CirPostO at kI
    have k1 := Lib.hid (toIntS_any a0 n0 c0 x0 w hm0 H0.out)
    go_wp2_with fail
    refine (k1.out).mono ?_
    rintro ee w1 ⟨rfl, ho1, hb1⟩
    have Z1 := Lib.hid hb1.size
    have Hb1 := Lib.hid (hb1)
    have OX0_1 := Lib.hid ho1
    clear ho1 hb1
    have k2 := Lib.hid (kS.out (some ⟨w.heap.size, 0, none⟩) w1 (Sl.of_own OX0_1.out))
    go_wp2_with fail
    refine (k2.out).mono ?_
    rintro ee w2 ⟨ls, o, aW, cW, hV, rfl, ho2, hl13, hb2⟩
    have HV := Lib.hid hV
    clear hV
    have hrl : ls.length ≤ 1000 := by omega
    clear hl13
    have Z2 := Lib.hid hb2.size
    have Hb2 := Lib.hid (Hb1.out.trans (hb2.mono Hb1.out.size))
    have OX0_2 := Lib.hid (ownsRow_below' OX0_1.out hb2)
    have SW := Lib.hid ho2
    clear ho2 hb2
    have Hc2 := Lib.hid (Below.refl w2.heap.size w2)
    have k3 := Lib.hid (toIntS_any a0 n0 c0 x0 w2 hm0 (H0.out.below Hb2.out))
    go_wp2_with fail
    refine (k3.out).mono ?_
    rintro ee w3 ⟨rfl, ho3, hb3⟩
    have Z3 := Lib.hid hb3.size
    have Hb3 := Lib.hid (Hb2.out.trans (hb3.mono Hb2.out.size))
    have Hc3 := Lib.hid (Hc2.out.trans (hb3.mono Hc2.out.size))
    have OX0_3 := Lib.hid ho3
    clear ho3 hb3
    have k4 := Lib.hid (kI.out (some ⟨w2.heap.size, 0, none⟩) w3 (Sl.of_own OX0_3.out) (HT.out.below Hb3.out htl))
    go_wp2_with fail
    refine (k4.out).mono ?_
    rintro ee w4 ⟨ls4, o4, aG, cG, hV, rfl, ho4, _, hb4⟩
    obtain ⟨rfl, rfl⟩ := HV.out.unique hV
    clear hV
    have Z4 := Lib.hid hb4.size
    have Hb4 := Lib.hid (Hb3.out.trans (hb4.mono Hb3.out.size))
    have Hc4 := Lib.hid (Hc3.out.trans (hb4.mono Hc3.out.size))
    have OX0_4 := Lib.hid (ownsRow_below' OX0_3.out hb4)
    have OG_4 := Lib.hid ho4
    clear ho4 hb4
    have hne : (o != o) = false := by simp
    have k5 := Lib.hid (eqIntS_any aG aW ls.length cG ls.length cW (nz ls) (nz ls) w4 (by omega) (OG_4.out.sl) (SW.out.below Hc4.out))
    rw [eqB_refl] at k5
    go_wp2_with fail
    refine (k5.out).mono ?_
    rintro ee w5 ⟨rfl, hb5⟩
    have Z5 := Lib.hid hb5.size
    have Hb5 := Lib.hid (Hb4.out.trans (hb5.mono Hb4.out.size))
    have Hc5 := Lib.hid (Hc4.out.trans (hb5.mono Hc4.out.size))
    have OX0_5 := Lib.hid (ownsRow_below' OX0_4.out hb5)
    have OG_5 := Lib.hid (OG_4.out.below hb5)
    clear hb5
    have k6 := Lib.hid (toIntS_any a0 n0 c0 x0 w5 hm0 (H0.out.below Hb5.out))
    go_wp2_with fail
    refine (k6.out).mono ?_
    rintro ee w6 ⟨rfl, ho6, hb6⟩
    have Z6 := Lib.hid hb6.size
    have Hb6 := Lib.hid (Hb5.out.trans (hb6.mono Hb5.out.size))
    have Hc6 := Lib.hid (Hc5.out.trans (hb6.mono Hc5.out.size))
    have OX0_6 := Lib.hid (ownsRow_below' OX0_5.out hb6)
    have OG_6 := Lib.hid (OG_5.out.below hb6)
    have OT_6 := Lib.hid ho6
    clear ho6 hb6
    have k7 := Lib.hid (eqIntS_any (some ⟨w2.heap.size, 0, none⟩) (some ⟨w5.heap.size, 0, none⟩) n0 n0 n0 n0 x0 x0 w6 (by omega) (Sl.of_own OX0_6.out) (Sl.of_own OT_6.out))
    rw [eqB_refl] at k7
    go_wp2_with fail
    refine (k7.out).mono ?_
    rintro ee w7 ⟨rfl, hb7⟩
    have Z7 := Lib.hid hb7.size
    have Hb7 := Lib.hid (Hb6.out.trans (hb7.mono Hb6.out.size))
    have Hc7 := Lib.hid (Hc6.out.trans (hb7.mono Hc6.out.size))
    have OX0_7 := Lib.hid (ownsRow_below' OX0_6.out hb7)
    have OG_7 := Lib.hid (OG_6.out.below hb7)
    have OT_7 := Lib.hid (ownsRow_below' OT_6.out hb7)
    clear hb7
    have k8 := Lib.hid (markIntS_any w2.heap.size (some ⟨w2.heap.size, 0, none⟩) n0 n0 x0 (1) w7 (by omega) (by omega) (by omega) OX0_7.out)
    go_wp2_with fail
    refine (k8.out).mono ?_
    rintro ee w8 ⟨rfl, _, hb8, hg8⟩
    have hU8 : w2.heap.size < w3.heap.size := (OX0_3.out.lt _ rfl).2
    have hm_8 := MidQ.of_grown hb8 hg8 hU8
    clear hg8 hU8
    have Z8 := Lib.hid hb8.size
    have Hb8 := Lib.hid (Hb7.out.trans (hb8.mono (by have z1 := Z1.out; have z2 := Z2.out; omega)))
    have Hc8 := Lib.hid (Hc7.out.trans (hb8.mono (Nat.le_refl _)))
    have OG_8 := Lib.hid (hm_8.ownAt OG_7.out (Nat.le_refl _))
    clear hb8 hm_8
    have hkk : ¬ ((1 + n0 : Int) < 0) := by omega
    have k9 := Lib.hid (eqIntS_any aG aW ls.length cG ls.length cW (nz ls) (nz ls) w8 (by omega) (OG_8.out.sl) (SW.out.below Hc8.out))
    rw [eqB_refl] at k9
    go_wp2_with fail
    refine (k9.out).mono ?_
    rintro ee w9 ⟨rfl, hb9⟩
    have Z9 := Lib.hid hb9.size
    have Hb9 := Lib.hid (Hb8.out.trans (hb9.mono Hb8.out.size))
    have Hc9 := Lib.hid (Hc8.out.trans (hb9.mono Hc8.out.size))
    have OG_9 := Lib.hid (OG_8.out.below hb9)
    clear hb9
    have k10 := Lib.hid (markIntS_off w3.heap.size aG ls.length cG (nz ls) 1 w9 (by omega) (by decide) (by decide) OG_9.out)
    go_wp2_with fail
    refine (k10.out).mono ?_
    rintro ee w10 ⟨rfl, ho10, hb10⟩
    have Z10 := Lib.hid hb10.size
    have Hb10 := Lib.hid (Hb9.out.trans (hb10.mono (by have z1 := Z1.out; have z2 := Z2.out; have z3 := Z3.out; omega)))
    have Hc10 := Lib.hid (Hc9.out.trans (hb10.mono (by have z3 := Z3.out; omega)))
    have OG_10 := Lib.hid ho10
    clear ho10 hb10
    have hge3 : ¬ ((1 : Int) + (ls.length : Int) < 0) := by omega
    have k11 := Lib.hid (heldIntS_any aG ls.length cG 1 w10 (by omega) (by decide) (by decide) (OG_10.out.sl))
    go_wp2_with fail
    refine (k11.out).mono ?_
    rintro ee w11 ⟨rfl, hb11⟩
    have Z11 := Lib.hid hb11.size
    have Hb11 := Lib.hid (Hb10.out.trans (hb11.mono Hb10.out.size))
    have Hc11 := Lib.hid (Hc10.out.trans (hb11.mono Hc10.out.size))
    have OG_11 := Lib.hid (OG_10.out.below hb11)
    clear hb11
    have k12 := Lib.hid (toIntS_any a0 n0 c0 x0 w11 hm0 (H0.out.below Hb11.out))
    go_wp2_with fail
    refine (k12.out).mono ?_
    rintro ee w12 ⟨rfl, ho12, hb12⟩
    have Z12 := Lib.hid hb12.size
    have Hb12 := Lib.hid (Hb11.out.trans (hb12.mono Hb11.out.size))
    have Hc12 := Lib.hid (Hc11.out.trans (hb12.mono Hc11.out.size))
    have OG_12 := Lib.hid (OG_11.out.below hb12)
    have OX0_12 := Lib.hid ho12
    clear ho12 hb12
    have k13 := Lib.hid (kI.out (some ⟨w11.heap.size, 0, none⟩) w12 (Sl.of_own OX0_12.out) (HT.out.below Hb12.out htl))
    go_wp2_with fail
    refine (k13.out).mono ?_
    rintro ee w13 ⟨ls13, o13, aV, cV, hV, rfl, ho13, _, hb13⟩
    obtain ⟨rfl, rfl⟩ := HV.out.unique hV
    clear hV
    have Z13 := Lib.hid hb13.size
    have Hb13 := Lib.hid (Hb12.out.trans (hb13.mono Hb12.out.size))
    have Hc13 := Lib.hid (Hc12.out.trans (hb13.mono Hc12.out.size))
    have OG_13 := Lib.hid (OG_12.out.below hb13)
    have OX0_13 := Lib.hid (ownsRow_below' OX0_12.out hb13)
    have OV_13 := Lib.hid ho13
    clear ho13 hb13
    have k14 := Lib.hid (eqIntS_any aV aW ls.length cV ls.length cW (nz ls) (nz ls) w13 (by omega) (OV_13.out.sl) (SW.out.below Hc13.out))
    rw [eqB_refl] at k14
    go_wp2_with fail
    refine (k14.out).mono ?_
    rintro ee w14 ⟨rfl, hb14⟩
    have Z14 := Lib.hid hb14.size
    have Hb14 := Lib.hid (Hb13.out.trans (hb14.mono Hb13.out.size))
    have Hc14 := Lib.hid (Hc13.out.trans (hb14.mono Hc13.out.size))
    have OG_14 := Lib.hid (OG_13.out.below hb14)
    have OV_14 := Lib.hid (OV_13.out.below hb14)
    clear hb14
    have k15 := Lib.hid (heldIntS_any aG ls.length cG 1 w14 (by omega) (by decide) (by decide) (OG_14.out.sl))
    go_wp2_with fail
    refine (k15.out).mono ?_
    rintro ee w15 ⟨rfl, hb15⟩
    have Z15 := Lib.hid hb15.size
    have Hb15 := Lib.hid (Hb14.out.trans (hb15.mono Hb14.out.size))
    have Hc15 := Lib.hid (Hc14.out.trans (hb15.mono Hc14.out.size))
    have OG_15 := Lib.hid (OG_14.out.below hb15)
    clear hb15
    go_wp2_with fail
    go_ret
    exact ⟨rfl, Hb15.out⟩
  · have hgt0 : (1048576 : Int) < n0 := by omega
    go_enter Tryd.func3, Tryd.ntmps3
    go_wp2_with fail
    go_ret
    exact ⟨rfl, Below.refl _ _⟩

end Go.Proofs.YtphcgmelaghbdaaDoor

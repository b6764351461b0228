/- FnTradeDo: the walk of the law. -/
import Derived.Test.YtgcdbndnpcfcnaaDrawTv
namespace Go.Proofs.Ytgcdbndnpcfcnaa
set_option maxRecDepth 100000
open Go.RowKit

set_option maxHeartbeats 4000000 in
theorem fnTradeDo_walk (a : Option Addr) (len cap : Nat) (w : World) (h : By w a len cap) :
    Calls Try.prog 6 #[.slice a len cap] w fun e w' => e = .returned (.bool true) ∧ Below w.heap.size w w' := by
  have hlm : len ≤ 9223372036854775807 := by have := h.1; have := h.2.1; unfold maxLen at this; omega
  by_cases hbig : 1048576 < len
  · clear h
    go_enter Try.func6, Try.ntmps6
    go_wp2_with fail
    go_ret
    exact ⟨rfl, Below.refl _ _⟩
  have k0 := Lib.hid (drawTradeDo_any a len cap w h)
  clear h
  go_enter Try.func6, Try.ntmps6
  go_wp2_with fail
  refine (k0.out).mono ?_
  rintro ee w1 ⟨xs, g, n, c, t, a1, a2, n1, n2, c1, c2, hn, rfl, s0, hl, s1, s2, hn1, hn2, hb0⟩
  obtain ⟨W, hW, hB, hbW, hsW⟩ := box_two w1 (.slice a1 n1 c1) (.slice a2 n2 c2) 25
  obtain ⟨r, hr⟩ : ∃ r, r = doR xs t := ⟨_, rfl⟩
  obtain ⟨o, ho⟩ : ∃ o, o = canB xs t := ⟨_, rfl⟩
  have hrl : r.length ≤ 3 := by rw [hr]; exact doR_le
  have k1 := Lib.hid (impl_TradeDo (some ⟨g, 0, none⟩) a1 a2 n c n1 c1 n2 c2 xs t W (by omega) (by omega) (by omega) (s0.below hbW) (s1.below hbW) (s2.below hbW))
  unfold TdPost at k1
  rw [← hr, ← ho] at k1
  have Hr := Lib.hid hr
  have Ho := Lib.hid ho
  have Hn := Lib.hid hn
  have S0 := Lib.hid (s0.below hbW)
  have S1 := Lib.hid (s1.below hbW)
  have S2 := Lib.hid (s2.below hbW)
  have HB := Lib.hid hB
  have Hs := Lib.hid (show w1.heap.size < W.heap.size by omega)
  have Hb0 := Lib.hid (hb0.trans (hbW.mono hb0.size))
  have x0 := hB.c0
  have x1 := hB.c1
  clear s0 s1 s2 hB hbW hsW hb0 hr ho hn
  go_wp2_with fail
  refine (k1.out).mono ?_
  rintro ee w2 ⟨aX, cX, rfl, hoX, hb2⟩
  have S02 := Lib.hid (S0.out.below hb2)
  have S12 := Lib.hid (S1.out.below hb2)
  have S22 := Lib.hid (S2.out.below hb2)
  have HB2 := Lib.hid (HB.out.below hb2 Hs.out)
  have Hs2 := Lib.hid (Nat.lt_of_lt_of_le Hs.out hb2.size)
  have Hb2 := Lib.hid (Hb0.out.trans (hb2.mono Hb0.out.size))
  have HX2 := Lib.hid (Sl.of_own hoX)
  have y0 := HB2.out.c0
  have y1 := HB2.out.c1
  have k2 := Lib.hid (spec_TradeDo (some ⟨g, 0, none⟩) a1 a2 n c n1 c1 n2 c2 xs t w2 S02.out S12.out S22.out)
  unfold TdPost at k2
  rw [← Hr.out, ← Ho.out] at k2
  clear hb2 x0 x1 hoX
  go_wp2_with fail
  refine (k2.out).mono ?_
  rintro ee w3 ⟨aY, cY, rfl, hoY, hb3⟩
  have S03 := Lib.hid (S02.out.below hb3)
  have S13 := Lib.hid (S12.out.below hb3)
  have S23 := Lib.hid (S22.out.below hb3)
  have HB3 := Lib.hid (HB2.out.below hb3 Hs2.out)
  have Hs3 := Lib.hid (Nat.lt_of_lt_of_le Hs2.out hb3.size)
  have Hb3 := Lib.hid (Hb2.out.trans (hb3.mono Hb2.out.size))
  have HX3 := Lib.hid (HX2.out.below hb3)
  have hne : (o != o) = false := by simp
  have k3 := Lib.hid (sameInts_any aX aY r.length cX r.length cY r r w3 (by omega) HX3.out (Sl.of_own hoY))
  rw [eqB_refl] at k3
  clear hb3 y0 y1 hoY
  go_wp2_with fail
  refine (k3.out).mono ?_
  rintro ee w4 ⟨rfl, hb4⟩
  have S04 := Lib.hid (S03.out.below hb4)
  have S14 := Lib.hid (S13.out.below hb4)
  have S24 := Lib.hid (S23.out.below hb4)
  have HB4 := Lib.hid (HB3.out.below hb4 Hs3.out)
  have Hs4 := Lib.hid (Nat.lt_of_lt_of_le Hs3.out hb4.size)
  have Hb4 := Lib.hid (Hb3.out.trans (hb4.mono Hb3.out.size))
  have HX4 := Lib.hid (HX3.out.below hb4)
  clear hb4
  cases o with
  | false =>
    have hrN : r = [] := by rw [Hr.out]; exact doR_no Ho.out.symm
    subst hrN
    have k5 := Lib.hid (alive_any w4)
    go_wp2_with fail
    refine (k5.out).mono ?_
    rintro ee w5 ⟨rfl, hb5⟩
    have Hb5 := Lib.hid (Hb4.out.trans (hb5.mono Hb4.out.size))
    clear hb5
    go_wp2_with fail
    go_ret
    exact ⟨rfl, Hb5.out⟩
  | true =>
    have hback := doR_back Ho.out.symm
    rw [← Hr.out] at hback
    have hval := doR_valid Ho.out.symm
    rw [← Hr.out] at hval
    have k5 := Lib.hid (impl_TradeDo aX a2 a1 r.length cX n2 c2 n1 c1 r t.turn w4 (by omega) (by omega) (by omega) HX4.out S24.out S14.out)
    unfold TdPost at k5
    rw [hback.1, hback.2] at k5
    have z0 := HB4.out.c0
    have z1 := HB4.out.c1
    have HV := Lib.hid hval
    clear hback hval
    go_wp2_with fail
    refine (k5.out).mono ?_
    rintro ee w5 ⟨aZ, cZ, rfl, hoZ, hb5⟩
    have HX5 := Lib.hid (HX4.out.below hb5)
    have S05 := Lib.hid (S04.out.below hb5)
    have HZ5 := Lib.hid (Sl.of_own hoZ)
    have Hb5 := Lib.hid (Hb4.out.trans (hb5.mono Hb4.out.size))
    have k6 := Lib.hid (impl_HeapsValid aX r.length cX r w5 (by omega) HX5.out)
    rw [HV.out] at k6
    have k7 := Lib.hid (sameInts_any aZ (some ⟨g, 0, none⟩) xs.length cZ n c xs xs w5 (by have := Hn.out; omega) HZ5.out S05.out)
    rw [eqB_refl] at k7
    clear hb5 hoZ z0 z1
    go_wp2_with fail
    refine (k6.out).mono ?_
    rintro ee wx ⟨rfl, rfl⟩
    go_wp2_with fail
    refine (k7.out).mono ?_
    rintro ee w7 ⟨rfl, hb7⟩
    have Hb7 := Lib.hid (Hb5.out.trans (hb7.mono Hb5.out.size))
    clear hb7
    go_wp2_with fail
    go_ret
    exact ⟨rfl, Hb7.out⟩

end Go.Proofs.Ytgcdbndnpcfcnaa

/- FnExactTradeValid: the walk of the law. -/
import Derived.Test.YtjkkopjmpmbapaaTrB
import Derived.Deep.RegionHeld3
namespace Go.Proofs.Ytjkkopjmpmbapaa
set_option maxRecDepth 100000
open Go.RowKit

set_option maxHeartbeats 1000000 in
theorem exactTradeValid_walk (a1 a2 : Option Addr) (n1 c1 n2 c2 : Nat) (t : Tr) (w : World) (h1 : Sl w a1 n1 c1 t.take) (h2 : Sl w a2 n2 c2 t.give) :
    Calls Try.prog 3 #[.agg #[.slice a1 n1 c1, .slice a2 n2 c2]] w fun e w' => e = .returned (.bool true) ∧ Below w.heap.size w w' := by
  have hm1 : n1 ≤ 9223372036854775807 := by have h := h1.2.1; have h' := h1.2.2.1; unfold maxLen at h'; omega
  have hm2 : n2 ≤ 9223372036854775807 := by have h := h2.2.1; have h' := h2.2.2.1; unfold maxLen at h'; omega
  obtain ⟨W, hW, hB, hbW, hsW⟩ := box_two w (.slice a1 n1 c1) (.slice a2 n2 c2) 24
  have k0 := Lib.hid (szTrade_any a1 a2 n1 c1 n2 c2 1048576 W hm1 hm2 (by decide) (by decide))
  have x0 := hB.c0
  have x1 := hB.c1
  have HB := Lib.hid hB
  have HbW := Lib.hid hbW
  have HsW := Lib.hid hsW
  have H1 := Lib.hid h1
  have H2 := Lib.hid h2
  clear hB hbW hsW h1 h2
  by_cases hsz : n1 + n2 ≤ 1048576
  · rw [szI_yes (by omega)] at k0
    have hge : ¬ ((1048576 : Int) - ((n1 + n2 : Nat) : Int) < 0) := by omega
    have hn1 : n1 ≤ 1000000000000 := by omega
    have hn2 : n2 ≤ 1000000000000 := by omega
    go_enter Try.func3, Try.ntmps3
    go_wp2_with fail
    refine (k0.out).mono ?_
    rintro ee w0 ⟨rfl, hb0⟩
    have hsW := HsW.out
    have hB0 := HB.out.below hb0 (by omega)
    have Hb0 := Lib.hid (HbW.out.trans (hb0.mono HbW.out.size))
    have hs0 : w.heap.size < w0.heap.size := by have := hb0.size; omega
    have x0 := hB0.c0
    have x1 := hB0.c1
    have HB0 := Lib.hid hB0
    have Hs0 := Lib.hid hs0
    have k1 := Lib.hid (toTrade_any a1 a2 n1 c1 n2 c2 t w0 hn1 hn2 (H1.out.below Hb0.out) (H2.out.below Hb0.out))
    clear hsW hB0 hs0 hb0
    go_wp2_with fail
    refine (k1.out).mono ?_
    rintro ee w1 ⟨v1, rfl, hc1, hb1⟩
    obtain ⟨g1, g2, rfl, s1, s2⟩ := hc1.parts
    have k2 := Lib.hid (sTradeValid_any _ _ n1 n1 n2 n2 t w1 s1 s2)
    have Hb1 := Lib.hid (Hb0.out.trans (hb1.mono Hb0.out.size))
    have HB1 := Lib.hid (HB0.out.below hb1 Hs0.out)
    have Hs1 := Lib.hid (Nat.lt_of_lt_of_le Hs0.out hb1.size)
    clear hc1 hb1 s1 s2 x0 x1
    go_wp2_with fail
    refine (k2.out).mono ?_
    rintro ee w2 ⟨rfl, hb2⟩
    have hB2 := HB1.out.below hb2 Hs1.out
    have x0 := hB2.c0
    have x1 := hB2.c1
    have HB2 := Lib.hid hB2
    have Hb2 := Lib.hid (Hb1.out.trans (hb2.mono Hb1.out.size))
    have Hs2 := Lib.hid (Nat.lt_of_lt_of_le Hs1.out hb2.size)
    have k3 := Lib.hid (toTrade_any a1 a2 n1 c1 n2 c2 t w2 hn1 hn2 (H1.out.below Hb2.out) (H2.out.below Hb2.out))
    obtain ⟨o, ho⟩ : ∃ o, o = tradeB t := ⟨_, rfl⟩
    rw [← ho]
    have Ho := Lib.hid ho
    clear hb2 hB2 ho
    go_wp2_with fail
    refine (k3.out).mono ?_
    rintro ee w3 ⟨v3, rfl, hc3, hb3⟩
    have HC3 := Lib.hid hc3
    obtain ⟨g3, g4, hv3, s3, s4⟩ := hc3.parts
    have Hb3 := Lib.hid (Hb2.out.trans (hb3.mono Hb2.out.size))
    have HB3 := Lib.hid (HB2.out.below hb3 Hs2.out)
    have Hs3 := Lib.hid (Nat.lt_of_lt_of_le Hs2.out hb3.size)
    clear hc3 hb3 x0 x1
    subst hv3
    obtain ⟨W4, hW4, hB4, hbW4, hsW4⟩ := box_two w3 (.slice (some ⟨g3, 0, none⟩) n1 n1) (.slice (some ⟨g4, 0, none⟩) n2 n2) 27
    have k4 := Lib.hid (iTradeValid_any _ _ n1 n1 n2 n2 t W4 hn1 hn2 (s3.below hbW4) (s4.below hbW4))
    rw [← Ho.out] at k4
    have y0 := hB4.c0
    have y1 := hB4.c1
    have HP4 := Lib.hid hB4
    have Hb4 := Lib.hid (Hb3.out.trans (hbW4.mono Hb3.out.size))
    have HB4 := Lib.hid (HB3.out.below hbW4 Hs3.out)
    have HS4 := Lib.hid hsW4
    have HC4 := Lib.hid (HC3.out.below hbW4)
    clear s3 s4 hbW4 hsW4 hB4
    go_wp2_with fail
    refine (k4.out).mono ?_
    rintro ee w5 ⟨rfl, hb5⟩
    have hs4 := HS4.out
    have hs3 := Hs3.out
    have hB5 := HB4.out.below hb5 (by omega)
    have hP5 := HP4.out.below hb5 (by omega)
    have hC5 := HC4.out.below hb5
    have Hb5 := Lib.hid (Hb4.out.trans (hb5.mono Hb4.out.size))
    have hs5 := hb5.size
    have x0 := hB5.c0
    have x1 := hB5.c1
    have z0 := hP5.c0
    have z1 := hP5.c1
    have HC5 := Lib.hid hC5
    have Hl := Lib.hid (show w.heap.size < w5.heap.size ∧ w3.heap.size < w5.heap.size by omega)
    have hne : (o != o) = false := by simp
    have hd0 : Below w5.heap.size w5 w5.drew := (Below.refl _ _).drew
    have k6 := Lib.hid (toTrade_any a1 a2 n1 c1 n2 c2 t w5.drew hn1 hn2 ((H1.out.below Hb5.out).below hd0) ((H2.out.below Hb5.out).below hd0))
    have Hd0 := Lib.hid hd0
    clear hs4 hs3 hB5 hP5 hC5 hs5 hb5 y0 y1 hd0
    go_wp2_with fail
    go_region_held3 (fun w' => (w'.cell? ⟨w.heap.size, 0, none⟩ = some (.slice a1 n1 c1) ∧ w'.cell? ⟨w.heap.size, 1, none⟩ = some (.slice a2 n2 c2)) ∧ w'.cell? ⟨w3.heap.size, 0, none⟩ = some (.slice (some ⟨g3, 0, none⟩) n1 n1) ∧ w'.cell? ⟨w3.heap.size, 1, none⟩ = some (.slice (some ⟨g4, 0, none⟩) n2 n2)) (first | go_keep | exact ⟨⟨kT0, kT1⟩, kT2, kT3⟩ | exact ⟨⟨kS0, kS1⟩, kS2, kS3⟩)
      ((first
        | (go_at_call 15; (with_reducible refine (k6.out).mono ?_); rintro ee w6 ⟨v6, rfl, hc6, hb6⟩; have hb6' : Below w5.heap.size w5 w6 := Hd0.out.trans hb6; have kS0 := (hb6'.cell (p := ⟨w.heap.size, 0, none⟩) Hl.out.1).trans x0; have kS1 := (hb6'.cell (p := ⟨w.heap.size, 1, none⟩) Hl.out.1).trans x1; have kS2 := (hb6'.cell (p := ⟨w3.heap.size, 0, none⟩) Hl.out.2).trans z0; have kS3 := (hb6'.cell (p := ⟨w3.heap.size, 1, none⟩) Hl.out.2).trans z1; obtain ⟨g5, g6, rfl, s5, s6⟩ := hc6.parts; obtain ⟨g7, g8, e7, s7, s8⟩ := (HC5.out.below hb6').parts; cases e7; have k7 := Lib.hid (eqTrade_same _ _ _ _ n1 n1 n2 n2 n1 n1 n2 n2 t w6 hn1 hn2 s7 s8 s5 s6); have Hb6 := Lib.hid (Hb5.out.trans (hb6'.mono Hb5.out.size)); have Hl6 := Lib.hid (show w.heap.size < w6.heap.size ∧ w3.heap.size < w6.heap.size from ⟨Nat.lt_of_lt_of_le Hl.out.1 hb6'.size, Nat.lt_of_lt_of_le Hl.out.2 hb6'.size⟩); clear hb6 hb6' hc6 s5 s6 s7 s8)
        | (go_at_call 17; (with_reducible refine (k7.out).mono ?_); rintro ee w7 ⟨rfl, hb7⟩; have kT0 := (hb7.cell (p := ⟨w.heap.size, 0, none⟩) Hl6.out.1).trans kS0; have kT1 := (hb7.cell (p := ⟨w.heap.size, 1, none⟩) Hl6.out.1).trans kS1; have kT2 := (hb7.cell (p := ⟨w3.heap.size, 0, none⟩) Hl6.out.2).trans kS2; have kT3 := (hb7.cell (p := ⟨w3.heap.size, 1, none⟩) Hl6.out.2).trans kS3)
        | fail))
    have Hb7 := Lib.hid (Hb6.out.trans (hb7.mono Hb6.out.size))
    clear hb7
    go_wp2_with fail
    go_ret
    exact ⟨rfl, Hb7.out⟩
  · rw [szI_no (by omega)] at k0
    go_enter Try.func3, Try.ntmps3
    go_wp2_with fail
    refine (k0.out).mono ?_
    rintro ee w0 ⟨rfl, hb0⟩
    have Hb0 := Lib.hid (HbW.out.trans (hb0.mono HbW.out.size))
    clear hb0
    go_wp2_with fail
    go_ret
    exact ⟨rfl, Hb0.out⟩

end Go.Proofs.Ytjkkopjmpmbapaa

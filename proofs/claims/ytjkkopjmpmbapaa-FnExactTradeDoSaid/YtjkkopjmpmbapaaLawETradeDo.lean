/- FnExactTradeDo: the walk of the law. -/
import Derived.Test.YtjkkopjmpmbapaaTrX
namespace Go.Proofs.Ytjkkopjmpmbapaa
set_option maxRecDepth 100000
open Go.RowKit

theorem own_past' {w : World} {B e n size : Nat} {v : Value} {row : Option Nat} {xs : List Value} (h : w.ownsRow B e size v n xs) (hlt : ∀ g, row = some g → g < B) : v.ownBlock = none ∨ v.ownBlock ≠ row := by
  cases hv : v.ownBlock with
  | none => exact .inl rfl
  | some g =>
    refine .inr (fun he => ?_)
    have h1 := (h.lt g hv).1
    have h2 := hlt g he.symm
    omega

set_option maxHeartbeats 4000000 in
theorem exactTradeDo_walk (a0 : Option Addr) (n0 c0 : Nat) (xs : List Int) (a1 a2 : Option Addr) (n1 c1 n2 c2 : Nat) (t : Tr) (w : World) (h0 : Sl w a0 n0 c0 xs) (h1 : Sl w a1 n1 c1 t.take) (h2 : Sl w a2 n2 c2 t.give) :
    Calls Try.prog 6 #[.slice a0 n0 c0, .agg #[.slice a1 n1 c1, .slice a2 n2 c2]] w fun e w' => e = .returned (.bool true) ∧ Below w.heap.size w w' := by
  have hm1 : n1 ≤ 9223372036854775807 := by have h := h1.2.1; have h' := h1.2.2.1; unfold maxLen at h'; omega
  have hm2 : n2 ≤ 9223372036854775807 := by have h := h2.2.1; have h' := h2.2.2.1; unfold maxLen at h'; omega
  obtain ⟨W, hW, hB, hbW, hsW⟩ := box_two w (.slice a1 n1 c1) (.slice a2 n2 c2) 24
  have x0 := hB.c0
  have x1 := hB.c1
  have HB := Lib.hid hB
  have HbW := Lib.hid hbW
  have HsW := Lib.hid hsW
  have H0 := Lib.hid h0
  have H1 := Lib.hid h1
  have H2 := Lib.hid h2
  by_cases h20 : n0 ≤ 1048576
  · have k0 := Lib.hid (szTrade_any a1 a2 n1 c1 n2 c2 1048576 W hm1 hm2 (by decide) (by decide))
    clear hB hbW hsW h0 h1 h2
    by_cases hsz : n1 + n2 ≤ 1048576
    · rw [szI_yes (by omega)] at k0
      have hge : ¬ ((1048576 : Int) - ((n1 + n2 : Nat) : Int) < 0) := by omega
      obtain ⟨z, hz⟩ : ∃ z, z = (1048576 : Int) - ((n1 + n2 : Nat) : Int) := ⟨_, rfl⟩
      rw [← hz] at k0 hge
      have hn0 : n0 ≤ 1000000000000 := by omega
      have hn1 : n1 ≤ 1048576 := by omega
      have hn2 : n2 ≤ 1048576 := by omega
      have hq1 : n1 ≤ 1000000000000 := by omega
      have hq2 : n2 ≤ 1000000000000 := by omega
      obtain ⟨r, hr⟩ : ∃ r, r = doR xs t := ⟨_, rfl⟩
      obtain ⟨o, ho⟩ : ∃ o, o = canB xs t := ⟨_, rfl⟩
      have hrl : r.length ≤ 3 := by rw [hr]; exact doR_le
      have Hr := Lib.hid hr
      have Ho := Lib.hid ho
      clear hz hsz hr ho
      go_enter Try.func6, Try.ntmps6
      go_wp2_with fail
      refine (k0.out).mono ?_
      rintro ee w1 ⟨rfl, hb1⟩
      have HB1 := Lib.hid (HB.out.below hb1 (by have := HsW.out; omega))
      have Hb1 := Lib.hid (HbW.out.trans (hb1.mono HbW.out.size))
      have Hs1 := Lib.hid (show w.heap.size < w1.heap.size by have := HsW.out; have := hb1.size; omega)
      have y0 := HB1.out.c0
      have y1 := HB1.out.c1
      clear hb1 x0 x1
      have hd : Below w1.heap.size w1 w1.drew := (Below.refl _ _).drew
      have Hd := Lib.hid hd
      have kA := Lib.hid (toIntS_any a0 n0 c0 xs w1.drew hn0 ((H0.out.below Hb1.out).below hd))
      clear hd
      go_wp2_with fail
      go_region_held3 (fun w' => w'.cell? ⟨w.heap.size, 0, none⟩ = some (.slice a1 n1 c1) ∧ w'.cell? ⟨w.heap.size, 1, none⟩ = some (.slice a2 n2 c2)) (first | go_keep | exact ⟨kU0, kU1⟩ | exact ⟨kT0, kT1⟩ | exact ⟨kS0, kS1⟩)
        ((first
          | (go_at_call 24; (with_reducible refine (kA.out).mono ?_); rintro ee w2a ⟨rfl, hoA, hbA⟩; have hbA' : Below w1.heap.size w1 w2a := Hd.out.trans hbA; have kS0 := (hbA'.cell (p := ⟨w.heap.size, 0, none⟩) Hs1.out).trans y0; have kS1 := (hbA'.cell (p := ⟨w.heap.size, 1, none⟩) Hs1.out).trans y1; have HbA := Lib.hid (Hb1.out.trans (hbA'.mono Hb1.out.size)); have HcA := Lib.hid hbA'; have HsA := Lib.hid (Nat.lt_of_lt_of_le Hs1.out hbA'.size); have HoA := Lib.hid hoA; have kB := Lib.hid (toTrade_any a1 a2 n1 c1 n2 c2 t w2a hq1 hq2 (H1.out.below HbA.out) (H2.out.below HbA.out)); clear hbA hbA' hoA)
          | (go_at_call 15; (with_reducible refine (kB.out).mono ?_); rintro ee w2b ⟨vB, rfl, hcB, hbB⟩; have kT0 := (hbB.cell (p := ⟨w.heap.size, 0, none⟩) HsA.out).trans kS0; have kT1 := (hbB.cell (p := ⟨w.heap.size, 1, none⟩) HsA.out).trans kS1; obtain ⟨gB1, gB2, rfl, sB1, sB2⟩ := hcB.parts; have HbB := Lib.hid (HbA.out.trans (hbB.mono HbA.out.size)); have HcB := Lib.hid (HcA.out.trans (hbB.mono HcA.out.size)); have HsB := Lib.hid (Nat.lt_of_lt_of_le HsA.out hbB.size); have kC := Lib.hid (spec_TradeDo (some ⟨w1.heap.size, 0, none⟩) (some ⟨gB1, 0, none⟩) (some ⟨gB2, 0, none⟩) n0 n0 n1 n1 n2 n2 xs t w2b  (Sl.of_own (ownsRow_below' HoA.out hbB)) sB1 sB2); unfold TdPost at kC; rw [← Hr.out, ← Ho.out] at kC; clear hbB hcB sB1 sB2)
          | (go_at_call 27; (with_reducible refine (kC.out).mono ?_); rintro ee w2c ⟨aR2, cR2, rfl, hoR2, hbC⟩; have kU0 := (hbC.cell (p := ⟨w.heap.size, 0, none⟩) HsB.out).trans kT0; have kU1 := (hbC.cell (p := ⟨w.heap.size, 1, none⟩) HsB.out).trans kT1)
          | fail))
      have Hb2 := Lib.hid (HbB.out.trans (hbC.mono HbB.out.size))
      have Hc2 := Lib.hid (HcB.out.trans (hbC.mono HcB.out.size))
      have Hs2 := Lib.hid (Nat.lt_of_lt_of_le HsB.out hbC.size)
      have HR2 := Lib.hid hoR2
      clear hbC hoR2 y0 y1 kS0 kS1 kT0 kT1 kA kB kC
      have HB2 := Lib.hid (HB1.out.below Hc2.out Hs1.out)
      have HW := Lib.hid (Sl.of_own HR2.out)
      have k3 := Lib.hid (toIntS_any a0 n0 c0 xs w2c hn0 (H0.out.below Hb2.out))
      clear kU0 kU1
      go_wp2_with fail
      refine (k3.out).mono ?_
      rintro ee w3 ⟨rfl, hoX, hb3⟩
      have Hb3 := Lib.hid (Hb2.out.trans (hb3.mono Hb2.out.size))
      have Hc3 := Lib.hid hb3
      have HB3 := Lib.hid (HB2.out.below hb3 Hs2.out)
      have Hs3 := Lib.hid (Nat.lt_of_lt_of_le Hs2.out hb3.size)
      have HX3 := Lib.hid hoX
      have y0 := HB3.out.c0
      have y1 := HB3.out.c1
      have k4 := Lib.hid (toTrade_any a1 a2 n1 c1 n2 c2 t w3 hq1 hq2 (H1.out.below Hb3.out) (H2.out.below Hb3.out))
      clear hoX hb3
      go_wp2_with fail
      refine (k4.out).mono ?_
      rintro ee w4 ⟨v4, rfl, hc4, hb4⟩
      obtain ⟨g1, g2, rfl, h12, o1, o2⟩ := hc4
      obtain ⟨W5, hW5, hB5, hbW5, hsW5⟩ := box_two w4 (.slice (some ⟨g1, 0, none⟩) n1 n1) (.slice (some ⟨g2, 0, none⟩) n2 n2) 27
      have H12 := Lib.hid h12
      have HO1 := Lib.hid (ownsRow_below' o1 hbW5)
      have HO2 := Lib.hid (ownsRow_below' o2 hbW5)
      have Hl2 := Lib.hid (o2.lt g2 rfl)
      have Hl1 := Lib.hid (o1.lt g1 rfl)
      have hb5 := hb4.trans (hbW5.mono hb4.size)
      have Hb5 := Lib.hid (Hb3.out.trans (hb5.mono Hb3.out.size))
      have Hc5 := Lib.hid (Hc3.out.trans (hb5.mono Hc3.out.size))
      have HX5 := Lib.hid (ownsRow_below' HX3.out hb5)
      have Hs5 := Lib.hid (show w4.heap.size < W5.heap.size by omega)
      have HsW5 := Lib.hid hsW5
      have HD5 := Lib.hid hB5
      have H34 := Lib.hid hb4.size
      have z0 := hB5.c0
      have z1 := hB5.c1
      have k6 := Lib.hid (impl_TradeDo (some ⟨w2c.heap.size, 0, none⟩) (some ⟨g1, 0, none⟩) (some ⟨g2, 0, none⟩) n0 n0 n1 n1 n2 n2 xs t W5 hn0 hq1 hq2 (Sl.of_own HX5.out) (Sl.of_own HO1.out) (Sl.of_own HO2.out))
      unfold TdPost at k6
      rw [← Hr.out, ← Ho.out] at k6
      clear h12 o1 o2 hb4 hb5 hB5 hbW5 hsW5 y0 y1
      go_wp2_with fail
      refine (k6.out).mono ?_
      rintro ee w6 ⟨aG, cG, rfl, hoG, hb6⟩
      have Hb6 := Lib.hid (Hb5.out.trans (hb6.mono Hb5.out.size))
      have Hc6 := Lib.hid (Hc5.out.trans (hb6.mono Hc5.out.size))
      have HX6 := Lib.hid (ownsRow_below' HX5.out hb6)
      have HP1 := Lib.hid (ownsRow_below' HO1.out hb6)
      have HP2 := Lib.hid (ownsRow_below' HO2.out hb6)
      have HD6 := Lib.hid (HD5.out.below hb6 Hs5.out)
      have HG6 := Lib.hid hoG
      have H56 := Lib.hid hb6.size
      have k7 := Lib.hid (eqIntS_any aG aR2 r.length cG r.length cR2 r r w6 (by omega) (Sl.of_own hoG) (HW.out.below Hc6.out))
      rw [eqB_refl] at k7
      have hne : (o != o) = false := by simp
      clear hoG hb6 z0 z1
      go_wp2_with fail
      refine (k7.out).mono ?_
      rintro ee w7 ⟨rfl, hb7⟩
      have Hb7 := Lib.hid (Hb6.out.trans (hb7.mono Hb6.out.size))
      have Hc7 := Lib.hid (Hc6.out.trans (hb7.mono Hc6.out.size))
      have HX7 := Lib.hid (ownsRow_below' HX6.out hb7)
      have HP17 := Lib.hid (ownsRow_below' HP1.out hb7)
      have HP27 := Lib.hid (ownsRow_below' HP2.out hb7)
      have HG7 := Lib.hid (ownsRow_below' HG6.out hb7)
      have HD7 := Lib.hid (HD6.out.below hb7 (by have := Hs5.out; have := H56.out; omega))
      have H67 := Lib.hid hb7.size
      have k8 := Lib.hid (toIntS_any a0 n0 c0 xs w7 hn0 (H0.out.below Hb7.out))
      clear hb7
      go_wp2_with fail
      refine (k8.out).mono ?_
      rintro ee w8 ⟨rfl, ho8, hb8⟩
      have k9 := Lib.hid (eqIntS_any _ _ n0 n0 n0 n0 xs xs w8 hn0 (Sl.of_own (ownsRow_below' HX7.out hb8)) (Sl.of_own ho8))
      rw [eqB_refl] at k9
      have Hb8 := Lib.hid (Hb7.out.trans (hb8.mono Hb7.out.size))
      have Hc8 := Lib.hid (Hc7.out.trans (hb8.mono Hc7.out.size))
      have HX8 := Lib.hid (ownsRow_below' HX7.out hb8)
      have HP18 := Lib.hid (ownsRow_below' HP17.out hb8)
      have HP28 := Lib.hid (ownsRow_below' HP27.out hb8)
      have HG8 := Lib.hid (ownsRow_below' HG7.out hb8)
      have HD8 := Lib.hid (HD7.out.below hb8 (by have := Hs5.out; have := H56.out; have := H67.out; omega))
      have H78 := Lib.hid hb8.size
      clear hb8 ho8
      go_wp2_with fail
      refine (k9.out).mono ?_
      rintro ee w9 ⟨rfl, hb9⟩
      have Hb9 := Lib.hid (Hb8.out.trans (hb9.mono Hb8.out.size))
      have Hc9 := Lib.hid (Hc8.out.trans (hb9.mono Hc8.out.size))
      have HX9 := Lib.hid (ownsRow_below' HX8.out hb9)
      have HP19 := Lib.hid (ownsRow_below' HP18.out hb9)
      have HP29 := Lib.hid (ownsRow_below' HP28.out hb9)
      have HG9 := Lib.hid (ownsRow_below' HG8.out hb9)
      have HD9 := Lib.hid (HD8.out.below hb9 (by have := Hs5.out; have := H56.out; have := H67.out; have := H78.out; omega))
      have H89 := Lib.hid hb9.size
      have HB9 := Lib.hid (HB2.out.below Hc9.out Hs2.out)
      have Hl := Lib.hid (show w.heap.size < w9.heap.size ∧ w4.heap.size < w9.heap.size by have := Hs5.out; have := H56.out; have := H67.out; have := H78.out; have := hb9.size; have := H34.out; have := Hs3.out; omega)
      have x0 := HB9.out.c0
      have x1 := HB9.out.c1
      have z0 := HD9.out.c0
      have z1 := HD9.out.c1
      have hd0 : Below w9.heap.size w9 w9.drew := (Below.refl _ _).drew
      have kA := Lib.hid (toTrade_any a1 a2 n1 c1 n2 c2 t w9.drew hq1 hq2 ((H1.out.below Hb9.out).below hd0) ((H2.out.below Hb9.out).below hd0))
      have Hd0 := Lib.hid hd0
      clear hb9 hd0
      go_wp2_with fail
      go_region_held3 (fun w' => (w'.cell? ⟨w.heap.size, 0, none⟩ = some (.slice a1 n1 c1) ∧ w'.cell? ⟨w.heap.size, 1, none⟩ = some (.slice a2 n2 c2)) ∧ w'.cell? ⟨w4.heap.size, 0, none⟩ = some (.slice (some ⟨g1, 0, none⟩) n1 n1) ∧ w'.cell? ⟨w4.heap.size, 1, none⟩ = some (.slice (some ⟨g2, 0, none⟩) n2 n2)) (first | go_keep | exact ⟨⟨kT0, kT1⟩, kT2, kT3⟩ | exact ⟨⟨kS0, kS1⟩, kS2, kS3⟩)
        ((first
          | (go_at_call 15; (with_reducible refine (kA.out).mono ?_); rintro ee w10 ⟨v6, rfl, hc6, hb6⟩; have hb6' : Below w9.heap.size w9 w10 := Hd0.out.trans hb6; have kS0 := (hb6'.cell (p := ⟨w.heap.size, 0, none⟩) Hl.out.1).trans x0; have kS1 := (hb6'.cell (p := ⟨w.heap.size, 1, none⟩) Hl.out.1).trans x1; have kS2 := (hb6'.cell (p := ⟨w4.heap.size, 0, none⟩) Hl.out.2).trans z0; have kS3 := (hb6'.cell (p := ⟨w4.heap.size, 1, none⟩) Hl.out.2).trans z1; obtain ⟨g5, g6, rfl, s5, s6⟩ := hc6.parts; have kB := Lib.hid (eqTrade_same (some ⟨g1, 0, none⟩) (some ⟨g2, 0, none⟩) _ _ n1 n1 n2 n2 n1 n1 n2 n2 t w10 hq1 hq2 (Sl.of_own (ownsRow_below' HP19.out hb6')) (Sl.of_own (ownsRow_below' HP29.out hb6')) s5 s6); have HcA := Lib.hid hb6'; have Hl6 := Lib.hid (show w.heap.size < w10.heap.size ∧ w4.heap.size < w10.heap.size from ⟨Nat.lt_of_lt_of_le Hl.out.1 hb6'.size, Nat.lt_of_lt_of_le Hl.out.2 hb6'.size⟩); clear hb6 hb6' hc6 s5 s6)
          | (go_at_call 17; (with_reducible refine (kB.out).mono ?_); rintro ee w11 ⟨rfl, hb7⟩; have kT0 := (hb7.cell (p := ⟨w.heap.size, 0, none⟩) Hl6.out.1).trans kS0; have kT1 := (hb7.cell (p := ⟨w.heap.size, 1, none⟩) Hl6.out.1).trans kS1; have kT2 := (hb7.cell (p := ⟨w4.heap.size, 0, none⟩) Hl6.out.2).trans kS2; have kT3 := (hb7.cell (p := ⟨w4.heap.size, 1, none⟩) Hl6.out.2).trans kS3)
          | fail))
      have hbq := HcA.out.trans (hb7.mono HcA.out.size)
      have Hb11 := Lib.hid (Hb9.out.trans (hbq.mono Hb9.out.size))
      have Hc11 := Lib.hid (Hc9.out.trans (hbq.mono Hc9.out.size))
      have HX11 := Lib.hid (ownsRow_below' HX9.out hbq)
      have HP111 := Lib.hid (ownsRow_below' HP19.out hbq)
      have HP211 := Lib.hid (ownsRow_below' HP29.out hbq)
      have HG11 := Lib.hid (ownsRow_below' HG9.out hbq)
      have HD11 := Lib.hid (HD9.out.below hbq Hl.out.2)
      have Hl11 := Lib.hid (show w2c.heap.size < w3.heap.size ∧ w3.heap.size ≤ w4.heap.size ∧ W5.heap.size ≤ w11.heap.size ∧ w4.heap.size < W5.heap.size ∧ w2c.heap.size ≤ W5.heap.size by have h1 := (HX3.out.lt w2c.heap.size rfl).2; have h2 := H34.out; have h3 := hbq.size; have h4 := H56.out; have h5 := H67.out; have h6 := H78.out; have h7 := Hs5.out; have h8 := H89.out; omega)
      clear hb7 hbq kS0 kS1 kS2 kS3 kT0 kT1 kT2 kT3 x0 x1 z0 z1
      have k12 := Lib.hid (markIntS_any w2c.heap.size (some ⟨w2c.heap.size, 0, none⟩) n0 n0 xs 1 w11 (by omega) (by decide) (by decide) HX11.out)
      go_wp2_with fail
      refine (k12.out).mono ?_
      rintro ee w12 ⟨rfl, _, hb12, hg12⟩
      have hL := Hl11.out
      have Hb12 := Lib.hid (Hb11.out.trans (hb12.mono Hb2.out.size))
      have Hc12 := Lib.hid (Hc11.out.trans hb12)
      have HP112 := Lib.hid (HP111.out.kept hg12 (.inr (by simp [Value.ownBlock]; have := Hl1.out; omega)))
      have HP212 := Lib.hid (HP211.out.kept hg12 (.inr (by simp [Value.ownBlock]; have := Hl2.out; omega)))
      have HG12 := Lib.hid (HG11.out.kept hg12 (own_past' HG11.out (by simp [Value.ownBlock]; omega)))
      have hD12 : Blk w12 w4.heap.size _ _ _ := (hg12.block w4.heap.size (by omega) (by simp [Value.ownBlock]; omega)).trans HD11.out
      have HD12 := Lib.hid hD12
      have z0 := hD12.c0
      have z1 := hD12.c1
      have k13 := Lib.hid (markTrade_any w2c.heap.size W5.heap.size g1 g2 n1 n2 t (1 + n0) w12 hn1 hn2 (by omega) (by omega) (by have := hg12.size; omega) (by omega) H12.out (by have := Hl2.out; omega) (Joins.ownsRow_le HP112.out (by omega)) (Joins.ownsRow_le HP212.out (by omega)))
      have Hg12 := Lib.hid hg12.size
      clear hL hD12 hb12 hg12
      go_wp2_with fail
      refine (k13.out).mono ?_
      rintro ee w13 ⟨rfl, hm13⟩
      have Hb13 := Lib.hid (Hb12.out.trans (hm13.below.mono Hb2.out.size))
      have Hc13 := Lib.hid (Hc12.out.trans hm13.below)
      have HG13 := Lib.hid (hm13.own HG12.out (Nat.le_refl _))
      have hge2 : ¬ ((1 + (n0 : Int) + (n1 : Int) + (n2 : Int)) < 0) := by omega
      have k14 := Lib.hid (eqIntS_any aG aR2 r.length cG r.length cR2 r r w13 (by omega) (Sl.of_own HG13.out) (HW.out.below Hc13.out))
      rw [eqB_refl] at k14
      clear hm13 z0 z1
      go_wp2_with fail
      refine (k14.out).mono ?_
      rintro ee w14 ⟨rfl, hb14⟩
      have Hb14 := Lib.hid (Hb13.out.trans (hb14.mono Hb13.out.size))
      have Hc14 := Lib.hid (Hc13.out.trans (hb14.mono Hc13.out.size))
      have HG14 := Lib.hid (ownsRow_below' HG13.out hb14)
      have k15 := Lib.hid (markIntS_any W5.heap.size aG r.length cG r 1 w14 (by omega) (by decide) (by decide) HG14.out)
      clear hb14
      go_wp2_with fail
      refine (k15.out).mono ?_
      rintro ee w15 ⟨rfl, ho15, hb15, _⟩
      have hL := Hl11.out
      have Hb15 := Lib.hid (Hb14.out.trans (hb15.mono (Nat.le_trans Hb2.out.size hL.2.2.2.2)))
      have Hc15 := Lib.hid (Hc14.out.trans (hb15.mono hL.2.2.2.2))
      have HG15 := Lib.hid ho15
      have k16 := Lib.hid (heldIntS_any aG r.length cG 1 w15 (by omega) (by decide) (by decide) (Sl.of_own ho15))
      have hge3 : ¬ ((1 : Int) + (r.length : Int) < 0) := by omega
      clear hb15 ho15 hL
      go_wp2_with fail
      refine (k16.out).mono ?_
      rintro ee w16 ⟨rfl, hb16⟩
      have Hb16 := Lib.hid (Hb15.out.trans (hb16.mono Hb15.out.size))
      have Hc16 := Lib.hid (Hc15.out.trans (hb16.mono Hc15.out.size))
      have HG16 := Lib.hid (ownsRow_below' HG15.out hb16)
      have HB16 := Lib.hid (HB2.out.below Hc16.out Hs2.out)
      have Hs16 := Lib.hid (Nat.lt_of_lt_of_le Hs2.out Hc16.out.size)
      have y0 := HB16.out.c0
      have y1 := HB16.out.c1
      clear hb16
      have hd : Below w16.heap.size w16 w16.drew := (Below.refl _ _).drew
      have Hd := Lib.hid hd
      have kA := Lib.hid (toIntS_any a0 n0 c0 xs w16.drew hn0 ((H0.out.below Hb16.out).below hd))
      clear hd
      go_wp2_with fail
      go_region_held3 (fun w' => w'.cell? ⟨w.heap.size, 0, none⟩ = some (.slice a1 n1 c1) ∧ w'.cell? ⟨w.heap.size, 1, none⟩ = some (.slice a2 n2 c2)) (first | go_keep | exact ⟨kU0, kU1⟩ | exact ⟨kT0, kT1⟩ | exact ⟨kS0, kS1⟩)
        ((first
          | (go_at_call 24; (with_reducible refine (kA.out).mono ?_); rintro ee w17a ⟨rfl, hoA, hbA⟩; have hbA' : Below w16.heap.size w16 w17a := Hd.out.trans hbA; have kS0 := (hbA'.cell (p := ⟨w.heap.size, 0, none⟩) Hs16.out).trans y0; have kS1 := (hbA'.cell (p := ⟨w.heap.size, 1, none⟩) Hs16.out).trans y1; have HbA := Lib.hid (Hb16.out.trans (hbA'.mono Hb16.out.size)); have HcA := Lib.hid hbA'; have HsA := Lib.hid (Nat.lt_of_lt_of_le Hs16.out hbA'.size); have HoA := Lib.hid hoA; have kB := Lib.hid (toTrade_any a1 a2 n1 c1 n2 c2 t w17a hq1 hq2 (H1.out.below HbA.out) (H2.out.below HbA.out)); clear hbA hbA' hoA)
          | (go_at_call 15; (with_reducible refine (kB.out).mono ?_); rintro ee w17b ⟨vB, rfl, hcB, hbB⟩; have kT0 := (hbB.cell (p := ⟨w.heap.size, 0, none⟩) HsA.out).trans kS0; have kT1 := (hbB.cell (p := ⟨w.heap.size, 1, none⟩) HsA.out).trans kS1; obtain ⟨gB1, gB2, rfl, sB1, sB2⟩ := hcB.parts; have HbB := Lib.hid (HbA.out.trans (hbB.mono HbA.out.size)); have HcB := Lib.hid (HcA.out.trans (hbB.mono HcA.out.size)); have HsB := Lib.hid (Nat.lt_of_lt_of_le HsA.out hbB.size); have kC := Lib.hid (impl_TradeDo (some ⟨w16.heap.size, 0, none⟩) (some ⟨gB1, 0, none⟩) (some ⟨gB2, 0, none⟩) n0 n0 n1 n1 n2 n2 xs t w17b hn0 hq1 hq2 (Sl.of_own (ownsRow_below' HoA.out hbB)) sB1 sB2); unfold TdPost at kC; rw [← Hr.out, ← Ho.out] at kC; clear hbB hcB sB1 sB2)
          | (go_at_call 28; (with_reducible refine (kC.out).mono ?_); rintro ee w17c ⟨aR17, cR17, rfl, hoR17, hbC⟩; have kU0 := (hbC.cell (p := ⟨w.heap.size, 0, none⟩) HsB.out).trans kT0; have kU1 := (hbC.cell (p := ⟨w.heap.size, 1, none⟩) HsB.out).trans kT1)
          | fail))
      have Hb17 := Lib.hid (HbB.out.trans (hbC.mono HbB.out.size))
      have Hc17 := Lib.hid (HcB.out.trans (hbC.mono HcB.out.size))
      have Hs17 := Lib.hid (Nat.lt_of_lt_of_le HsB.out hbC.size)
      have HR17 := Lib.hid hoR17
      clear hbC hoR17 y0 y1 kS0 kS1 kT0 kT1 kA kB kC
      have Hd17 := Lib.hid (Hc16.out.trans (Hc17.out.mono Hc16.out.size))
      have HG17 := Lib.hid (ownsRow_below' HG16.out Hc17.out)
      have k18 := Lib.hid (eqIntS_any aR17 aR2 r.length cR17 r.length cR2 r r w17c (by omega) (Sl.of_own HR17.out) (HW.out.below Hd17.out))
      rw [eqB_refl] at k18
      clear kU0 kU1
      go_wp2_with fail
      refine (k18.out).mono ?_
      rintro ee w18 ⟨rfl, hb18⟩
      have Hb18 := Lib.hid (Hb17.out.trans (hb18.mono Hb17.out.size))
      have k19 := Lib.hid (heldIntS_any aG r.length cG 1 w18 (by omega) (by decide) (by decide) (Sl.of_own (ownsRow_below' HG17.out hb18)))
      clear hb18
      go_wp2_with fail
      refine (k19.out).mono ?_
      rintro ee w19 ⟨rfl, hb19⟩
      have Hb19 := Lib.hid (Hb18.out.trans (hb19.mono Hb18.out.size))
      clear hb19
      go_wp2_with fail
      go_ret
      exact ⟨rfl, Hb19.out⟩
    · rw [szI_no (by omega)] at k0
      have hle : (n0 : Int) ≤ 1048576 := by omega
      go_enter Try.func6, Try.ntmps6
      go_wp2_with fail
      refine (k0.out).mono ?_
      rintro ee w1 ⟨rfl, hb1⟩
      have Hb1 := Lib.hid (HbW.out.trans (hb1.mono HbW.out.size))
      clear hb1
      go_wp2_with fail
      go_ret
      exact ⟨rfl, Hb1.out⟩
  · have hgt : (1048576 : Int) < n0 := by omega
    clear hB hbW hsW h0 h1 h2
    go_enter Try.func6, Try.ntmps6
    go_wp2_with fail
    go_ret
    exact ⟨rfl, HbW.out⟩

end Go.Proofs.Ytjkkopjmpmbapaa

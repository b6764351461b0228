/- FnExactBattleLeft: the walk of the law. -/
import Derived.Test.YtdcgcohfbcdnnaaBtV
import Derived.Deep.RegionHeld3
namespace Go.Proofs.Ytdcgcohfbcdnnaa
set_option maxRecDepth 100000
open Go.RowKit

set_option maxHeartbeats 4000000 in
theorem exactBattleLeft_walk (a1 a2 a3 : Option Addr) (n1 c1 n2 c2 n3 c3 : Nat) (b : Bt) (w : World) (h1 : Sl w a1 n1 c1 b.first) (h2 : Sl w a2 n2 c2 b.cuts) (h3 : Sl w a3 n3 c3 b.now) :
    Calls Try.prog 10 #[.agg #[.slice a1 n1 c1, .int .i64 b.copies, .slice a2 n2 c2, .slice a3 n3 c3]] w fun e w' => e = .returned (.bool true) ∧ Below w.heap.size w w' := by
  have hm1 : n1 ≤ 9223372036854775807 := by have h := h1.2.1; have h' := h1.2.2.1; unfold maxLen at h'; omega
  have hm2 : n2 ≤ 9223372036854775807 := by have h := h2.2.1; have h' := h2.2.2.1; unfold maxLen at h'; omega
  have hm3 : n3 ≤ 9223372036854775807 := by have h := h3.2.1; have h' := h3.2.2.1; unfold maxLen at h'; omega
  obtain ⟨q, hq⟩ : ∃ q, b.copies = q := ⟨_, rfl⟩
  have HT := Lib.hid (fun w0 (k1 : n1 ≤ 1000000000000) (k2 : n2 ≤ 1000000000000) (k3 : n3 ≤ 1000000000000) g1 g2 g3 => toBattle_any a1 a2 a3 n1 c1 n2 c2 n3 c3 b w0 k1 k2 k3 g1 g2 g3)
  have HPt := Lib.hid (fun (B : Nat) (w0 : World) (v : Value) (h : BtCopy B w0 v n1 n2 n3 b) => h.parts)
  have HVs := Lib.hid (fun a1 a2 a3 n1 c1 n2 c2 n3 c3 w0 k1 k2 k3 => spec_BattleLeft a1 a2 a3 n1 c1 n2 c2 n3 c3 b w0 k1 k2 k3)
  have HVi := Lib.hid (fun a1 a2 a3 n1 c1 n2 c2 n3 c3 w0 k1 k2 k3 => impl_BattleLeft a1 a2 a3 n1 c1 n2 c2 n3 c3 b w0 k1 k2 k3)
  have HE := Lib.hid (fun a1 a2 a3 a4 a5 a6 n1 c1 n2 c2 n3 c3 n4 c4 n5 c5 n6 c6 w0 k1 k2 k3 g1 g2 g3 g4 g5 g6 => eqBattle_same a1 a2 a3 a4 a5 a6 n1 c1 n2 c2 n3 c3 n4 c4 n5 c5 n6 c6 b w0 k1 k2 k3 g1 g2 g3 g4 g5 g6)
  rw [hq] at HT HPt HVs HVi HE ⊢
  clear hq
  obtain ⟨o, ho⟩ : ∃ o, btLeft b = o := ⟨_, rfl⟩
  rw [ho] at HVs HVi
  clear ho
  obtain ⟨W, hW, hB, hbW, hsW⟩ := box_four w (.slice a1 n1 c1) (.int .i64 q) (.slice a2 n2 c2) (.slice a3 n3 c3) 33
  have k0 := Lib.hid (szBattle_any a1 a2 a3 n1 c1 n2 c2 n3 c3 q 1048576 W hm1 hm2 hm3 (by decide) (by decide))
  have x0 := hB.c0
  have x1 := hB.c1
  have x2 := hB.c2
  have x3 := hB.c3
  have HB := Lib.hid hB
  have HbW := Lib.hid hbW
  have HsW := Lib.hid hsW
  have H1 := Lib.hid h1
  have H2 := Lib.hid h2
  have H3 := Lib.hid h3
  clear hB hbW hsW h1 h2 h3
  by_cases hsz : n1 + n2 + n3 ≤ 1048576
  · rw [szI_yes (by omega)] at k0
    have hge : ¬ ((1048576 : Int) - ((n1 + n2 + n3 : Nat) : Int) < 0) := by omega
    have hn1 : n1 ≤ 1000000000000 := by omega
    have hn2 : n2 ≤ 1000000000000 := by omega
    have hn3 : n3 ≤ 1000000000000 := by omega
    go_enter Try.func10, Try.ntmps10
    go_wp2_with fail
    refine (k0.out).mono ?_
    rintro ee w0 ⟨rfl, hb0⟩
    have hsW := HsW.out
    have hB0 := HB.out.below hb0 (by omega)
    have Hb0 := Lib.hid (HbW.out.trans (hb0.mono HbW.out.size))
    have hs0 : w.heap.size < w0.heap.size := by have := hb0.size; omega
    have x0 := hB0.c0
    have x1 := hB0.c1
    have x2 := hB0.c2
    have x3 := hB0.c3
    have HB0 := Lib.hid hB0
    have Hs0 := Lib.hid hs0
    have k1 := Lib.hid (HT.out w0 hn1 hn2 hn3 (H1.out.below Hb0.out) (H2.out.below Hb0.out) (H3.out.below Hb0.out))
    clear hsW hB0 hs0 hb0
    go_wp2_with fail
    refine (k1.out).mono ?_
    rintro ee w1 ⟨v1, rfl, hc1, hb1⟩
    obtain ⟨g4, g5, g6, rfl, s1, s2, s3⟩ := HPt.out _ _ _ hc1
    have k2 := Lib.hid (HVs.out _ _ _ n1 n1 n2 n2 n3 n3 w1 s1 s2 s3)
    have Hb1 := Lib.hid (Hb0.out.trans (hb1.mono Hb0.out.size))
    have HB1 := Lib.hid (HB0.out.below hb1 Hs0.out)
    have Hs1 := Lib.hid (Nat.lt_of_lt_of_le Hs0.out hb1.size)
    clear hc1 hb1 s1 s2 s3 x0 x1 x2 x3
    go_wp2_with fail
    refine (k2.out).mono ?_
    rintro ee w2 ⟨rfl, hb2⟩
    have hB2 := HB1.out.below hb2 Hs1.out
    have x0 := hB2.c0
    have x1 := hB2.c1
    have x2 := hB2.c2
    have x3 := hB2.c3
    have HB2 := Lib.hid hB2
    have Hb2 := Lib.hid (Hb1.out.trans (hb2.mono Hb1.out.size))
    have Hs2 := Lib.hid (Nat.lt_of_lt_of_le Hs1.out hb2.size)
    have k3 := Lib.hid (HT.out w2 hn1 hn2 hn3 (H1.out.below Hb2.out) (H2.out.below Hb2.out) (H3.out.below Hb2.out))
    clear hb2 hB2
    go_wp2_with fail
    refine (k3.out).mono ?_
    rintro ee w3 ⟨v3, rfl, hc3, hb3⟩
    have HC3 := Lib.hid hc3
    obtain ⟨g1, g2, g3, hv3, s4, s5, s6⟩ := HPt.out _ _ _ hc3
    have Hb3 := Lib.hid (Hb2.out.trans (hb3.mono Hb2.out.size))
    have HB3 := Lib.hid (HB2.out.below hb3 Hs2.out)
    have Hs3 := Lib.hid (Nat.lt_of_lt_of_le Hs2.out hb3.size)
    clear hc3 hb3 x0 x1 x2 x3
    subst hv3
    obtain ⟨W4, hW4, hB4, hbW4, hsW4⟩ := box_four w3 (.slice (some ⟨g1, 0, none⟩) n1 n1) (.int .i64 q) (.slice (some ⟨g2, 0, none⟩) n2 n2) (.slice (some ⟨g3, 0, none⟩) n3 n3) 36
    have k4 := Lib.hid (HVi.out _ _ _ n1 n1 n2 n2 n3 n3 W4 (s4.below hbW4) (s5.below hbW4) (s6.below hbW4))
    have y0 := hB4.c0
    have y1 := hB4.c1
    have y2 := hB4.c2
    have y3 := hB4.c3
    have HP4 := Lib.hid hB4
    have Hb4 := Lib.hid (Hb3.out.trans (hbW4.mono Hb3.out.size))
    have HB4 := Lib.hid (HB3.out.below hbW4 Hs3.out)
    have HS4 := Lib.hid hsW4
    have HC4 := Lib.hid (HC3.out.below hbW4)
    clear s4 s5 s6 hbW4 hsW4 hB4
    go_wp2_with fail
    refine (k4.out).mono ?_
    rintro ee w5 ⟨rfl, hb5⟩
    have hs4 := HS4.out
    have hs3 := Hs3.out
    have hB5 := HB4.out.below hb5 (by omega)
    have hP5 := HP4.out.below hb5 (by omega)
    have hC5 := HC4.out.below hb5
    have Hb5 := Lib.hid (Hb4.out.trans (hb5.mono Hb4.out.size))
    have hs5 := hb5.size
    have x0 := hB5.c0
    have x1 := hB5.c1
    have x2 := hB5.c2
    have x3 := hB5.c3
    have z0 := hP5.c0
    have z1 := hP5.c1
    have z2 := hP5.c2
    have z3 := hP5.c3
    have HC5 := Lib.hid hC5
    have Hl := Lib.hid (show w.heap.size < w5.heap.size ∧ w3.heap.size < w5.heap.size by omega)
    have hne : (o != o) = false := by simp
    have hd0 : Below w5.heap.size w5 w5.drew := (Below.refl _ _).drew
    have k6 := Lib.hid (HT.out w5.drew hn1 hn2 hn3 ((H1.out.below Hb5.out).below hd0) ((H2.out.below Hb5.out).below hd0) ((H3.out.below Hb5.out).below hd0))
    have Hd0 := Lib.hid hd0
    clear hs4 hs3 hB5 hP5 hC5 hs5 hb5 y0 y1 y2 y3 hd0
    go_wp2_with fail
    go_region_held3 (fun w' => (w'.cell? ⟨w.heap.size, 0, none⟩ = some (.slice a1 n1 c1) ∧ w'.cell? ⟨w.heap.size, 1, none⟩ = some (.int .i64 q) ∧ w'.cell? ⟨w.heap.size, 2, none⟩ = some (.slice a2 n2 c2) ∧ w'.cell? ⟨w.heap.size, 3, none⟩ = some (.slice a3 n3 c3)) ∧ w'.cell? ⟨w3.heap.size, 0, none⟩ = some (.slice (some ⟨g1, 0, none⟩) n1 n1) ∧ w'.cell? ⟨w3.heap.size, 1, none⟩ = some (.int .i64 q) ∧ w'.cell? ⟨w3.heap.size, 2, none⟩ = some (.slice (some ⟨g2, 0, none⟩) n2 n2) ∧ w'.cell? ⟨w3.heap.size, 3, none⟩ = some (.slice (some ⟨g3, 0, none⟩) n3 n3)) (first | go_keep | exact ⟨⟨kT0, kT1, kT2, kT3⟩, kU0, kU1, kU2, kU3⟩ | exact ⟨⟨kS0, kS1, kS2, kS3⟩, kR0, kR1, kR2, kR3⟩)
      ((first
        | (go_at_call 24; (with_reducible refine (k6.out).mono ?_); rintro ee w6 ⟨v6, rfl, hc6, hb6⟩; have hb6' : Below w5.heap.size w5 w6 := Hd0.out.trans hb6; have kS0 := (hb6'.cell (p := ⟨w.heap.size, 0, none⟩) Hl.out.1).trans x0; have kS1 := (hb6'.cell (p := ⟨w.heap.size, 1, none⟩) Hl.out.1).trans x1; have kS2 := (hb6'.cell (p := ⟨w.heap.size, 2, none⟩) Hl.out.1).trans x2; have kS3 := (hb6'.cell (p := ⟨w.heap.size, 3, none⟩) Hl.out.1).trans x3; have kR0 := (hb6'.cell (p := ⟨w3.heap.size, 0, none⟩) Hl.out.2).trans z0; have kR1 := (hb6'.cell (p := ⟨w3.heap.size, 1, none⟩) Hl.out.2).trans z1; have kR2 := (hb6'.cell (p := ⟨w3.heap.size, 2, none⟩) Hl.out.2).trans z2; have kR3 := (hb6'.cell (p := ⟨w3.heap.size, 3, none⟩) Hl.out.2).trans z3; obtain ⟨g7, g8, g9, rfl, s7, s8, s9⟩ := HPt.out _ _ _ hc6; obtain ⟨ga, gb, gc, e7, t7, t8, t9⟩ := HPt.out _ _ _ (HC5.out.below hb6'); cases e7; have k7 := Lib.hid (HE.out _ _ _ _ _ _ n1 n1 n2 n2 n3 n3 n1 n1 n2 n2 n3 n3 w6 hn1 hn2 hn3 t7 t8 t9 s7 s8 s9); have Hb6 := Lib.hid (Hb5.out.trans (hb6'.mono Hb5.out.size)); have Hl6 := Lib.hid (show w.heap.size < w6.heap.size ∧ w3.heap.size < w6.heap.size from ⟨Nat.lt_of_lt_of_le Hl.out.1 hb6'.size, Nat.lt_of_lt_of_le Hl.out.2 hb6'.size⟩); clear hb6 hb6' hc6 s7 s8 s9 t7 t8 t9)
        | (go_at_call 26; (with_reducible refine (k7.out).mono ?_); rintro ee w7 ⟨rfl, hb7⟩; have kT0 := (hb7.cell (p := ⟨w.heap.size, 0, none⟩) Hl6.out.1).trans kS0; have kT1 := (hb7.cell (p := ⟨w.heap.size, 1, none⟩) Hl6.out.1).trans kS1; have kT2 := (hb7.cell (p := ⟨w.heap.size, 2, none⟩) Hl6.out.1).trans kS2; have kT3 := (hb7.cell (p := ⟨w.heap.size, 3, none⟩) Hl6.out.1).trans kS3; have kU0 := (hb7.cell (p := ⟨w3.heap.size, 0, none⟩) Hl6.out.2).trans kR0; have kU1 := (hb7.cell (p := ⟨w3.heap.size, 1, none⟩) Hl6.out.2).trans kR1; have kU2 := (hb7.cell (p := ⟨w3.heap.size, 2, none⟩) Hl6.out.2).trans kR2; have kU3 := (hb7.cell (p := ⟨w3.heap.size, 3, none⟩) Hl6.out.2).trans kR3)
        | fail))
    have Hb7 := Lib.hid (Hb6.out.trans (hb7.mono Hb6.out.size))
    clear hb7
    go_wp2_with fail
    go_ret
    exact ⟨rfl, Hb7.out⟩
  · rw [szI_no (by omega)] at k0
    go_enter Try.func10, Try.ntmps10
    go_wp2_with fail
    refine (k0.out).mono ?_
    rintro ee w0 ⟨rfl, hb0⟩
    have Hb0 := Lib.hid (HbW.out.trans (hb0.mono HbW.out.size))
    clear hb0
    go_wp2_with fail
    go_ret
    exact ⟨rfl, Hb0.out⟩

end Go.Proofs.Ytdcgcohfbcdnnaa

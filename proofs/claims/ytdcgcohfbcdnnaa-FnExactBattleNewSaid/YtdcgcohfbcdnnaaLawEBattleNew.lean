/- FnExactBattleNew: the walk of the law. -/
import Derived.Test.YtdcgcohfbcdnnaaBtM
namespace Go.Proofs.Ytdcgcohfbcdnnaa
set_option maxRecDepth 100000
open Go.RowKit

set_option maxHeartbeats 8000000 in
theorem exactBattleNew_walk (a1 : Option Addr) (n1 c1 : Nat) (xs : List Int) (V : Int) (w : World) (h : Sl w a1 n1 c1 xs) :
    Calls Try.prog 7 #[.slice a1 n1 c1, .int .i64 V] w fun e w' => e = .returned (.bool true) ∧ Below w.heap.size w w' := by
  by_cases h20 : n1 ≤ 1048576
  · have h12 : n1 ≤ 1000000000000 := by omega
    obtain ⟨b, hb⟩ : ∃ b, newB xs V = b := ⟨_, rfl⟩
    obtain ⟨q, hq⟩ : ∃ q, b.copies = q := ⟨_, rfl⟩
    have hlen := newB_len xs V
    rw [hb] at hlen
    have HVs := Lib.hid (fun a l c w0 (h0 : Sl w0 a l c xs) => spec_BattleNew a l c xs V w0 h0)
    have HVi := Lib.hid (fun a l c w0 (h0 : Sl w0 a l c xs) => impl_BattleNew a l c xs V w0 h0)
    have HE := Lib.hid (fun a1 a2 a3 a4 a5 a6 n1 c1 n2 c2 n3 c3 n4 c4 n5 c5 n6 c6 w0 k1 k2 k3 g1 g2 g3 g4 g5 g6 => eqBattle_same a1 a2 a3 a4 a5 a6 n1 c1 n2 c2 n3 c3 n4 c4 n5 c5 n6 c6 b w0 k1 k2 k3 g1 g2 g3 g4 g5 g6)
    have HRo := Lib.hid (fun (B : Nat) (w0 : World) (v : Value) (h : BtOwn B w0 v b) => h.rows)
    rw [hb] at HVs HVi
    rw [hq] at HE HRo
    clear hb hq
    have HA := Lib.hid h
    have k1 := Lib.hid (toIntS_any a1 n1 c1 xs w h12 h)
    clear h
    go_enter Try.func7, Try.ntmps7
    go_wp2_with fail
    refine (k1.out).mono ?_
    rintro ee w1 ⟨rfl, ho1, hb1⟩
    have k2 := Lib.hid (HVs.out _ _ n1 w1 (Sl.of_own ho1))
    have Hb1 := Lib.hid hb1
    clear ho1 hb1
    go_wp2_with fail
    refine (k2.out).mono ?_
    rintro ee w2 ⟨v0, rfl, hv0, hb2⟩
    obtain ⟨x1, x2, x3, m1, y1, m2, y2, m3, y3, rfl, hR0⟩ := HRo.out _ _ _ hv0
    have hml := hR0.len
    have hm1 : m1 ≤ 60 := by omega
    have hm2 : m2 ≤ 60 := by omega
    have hm3 : m3 ≤ 60 := by omega
    obtain ⟨Wz5, Wa5, Wb5, Wc5, W5, hz5, ha5, hb5', hc5', hd5, ca5, fa5, cb5, fb5, cc5, fc5, cd5, fd5, hB5, hbx5, hsx5⟩ := bt_box w2 (.slice x1 m1 y1) (.int .i64 q) (.slice x2 m2 y2) (.slice x3 m3 y3) 36
    clear hsx5
    have HR0 := Lib.hid (hR0.below hbx5)
    have HB5 := Lib.hid hB5
    have HbA := Lib.hid ((Hb1.out.trans (hb2.mono Hb1.out.size)).trans (hbx5.mono (by have := hb2.size; have := Hb1.out.size; omega)))
    have hG5 := hB5.lt
    have k3 := Lib.hid (toIntS_any a1 n1 c1 xs W5 h12 (HA.out.below HbA.out))
    clear hml hv0 hR0 hb2 hB5 hbx5
    go_wp2_with fail
    refine (k3.out).mono ?_
    rintro ee w3 ⟨rfl, ho3, hb3⟩
    clear hz5 ha5 hb5' hc5' hd5 ca5 fa5 cb5 fb5 cc5 fc5 cd5 fd5
    have Hb3 := Lib.hid (HbA.out.trans (hb3.mono HbA.out.size))
    have Hc3 := Lib.hid hb3
    have HX3 := Lib.hid ho3
    have k4 := Lib.hid (HVi.out _ _ n1 w3 (Sl.of_own ho3))
    have hx3 := (ho3.lt _ rfl).2
    clear ho3 hb3
    go_wp2_with fail
    refine (k4.out).mono ?_
    rintro ee w4 ⟨v1, rfl, hv1, hb4⟩
    obtain ⟨z1, z2, z3, m1', u1, m2', u2, m3', u3, rfl, hR1⟩ := HRo.out _ _ _ hv1
    obtain ⟨e1, e2, e3⟩ := hR1.len
    obtain ⟨f1, f2, f3⟩ := HR0.out.len
    obtain rfl : m1' = m1 := by omega
    obtain rfl : m2' = m2 := by omega
    obtain rfl : m3' = m3 := by omega
    clear e1 e2 e3 f1 f2 f3
    have HO1 := Lib.hid (show (∀ k, (Value.slice z1 m1' u1).ownBlock = some k → k < w4.heap.size) ∧ (∀ k, (Value.slice z2 m2' u2).ownBlock = some k → k < w4.heap.size) ∧ (∀ k, (Value.slice z3 m3' u3).ownBlock = some k → k < w4.heap.size) from ⟨fun k hk => (hR1.1.lt k hk).2, fun k hk => (hR1.2.1.lt k hk).2, fun k hk => (hR1.2.2.1.lt k hk).2⟩)
    obtain ⟨Wz7, Wa7, Wb7, Wc7, W7, hz7, ha7, hb7', hc7', hd7, ca7, fa7, cb7, fb7, cc7, fc7, cd7, fd7, hB7, hbx7, hsx7⟩ := bt_box w4 (.slice z1 m1' u1) (.int .i64 q) (.slice z2 m2' u2) (.slice z3 m3' u3) 36
    clear hsx7
    have HR1 := Lib.hid (hR1.below hbx7)
    have HB7 := Lib.hid hB7
    have hb5 := hb4.trans (hbx7.mono hb4.size)
    have Hb5 := Lib.hid (Hb3.out.trans (hb5.mono Hb3.out.size))
    have Hc5 := Lib.hid (Hc3.out.trans (hb5.mono Hc3.out.size))
    have HX5 := Lib.hid (ownsRow_below' HX3.out hb5)
    have hs5 := Hc5.out.size
    have hg7 := hB7.lt
    have hg75 : w3.heap.size ≤ w4.heap.size := hb4.size
    have p0 := (hB7).c0
    have p1 := (hB7).c1
    have p2 := (hB7).c2
    have p3 := (hB7).c3
    have s0 := (HB5.out.below Hc5.out hG5).c0
    have s1 := (HB5.out.below Hc5.out hG5).c1
    have s2 := (HB5.out.below Hc5.out hG5).c2
    have s3 := (HB5.out.below Hc5.out hG5).c3
    obtain ⟨a4, a5, a6⟩ := HR1.out.parts
    obtain ⟨a7, a8, a9⟩ := (HR0.out.below Hc5.out).parts
    have k5 := Lib.hid (HE.out _ _ _ _ _ _ m1' u1 m2' u2 m3' u3 m1' y1 m2' y2 m3' y3 W7 (by omega) (by omega) (by omega) a4 a5 a6 a7 a8 a9)
    clear a4 a5 a6 a7 a8 a9 hv1 hR1 hb4 hb5 hB7 hbx7
    go_wp2_with fail
    refine (k5.out).mono ?_
    rintro ee w6 ⟨rfl, hb6⟩
    clear hz7 ha7 hb7' hc7' hd7 ca7 fa7 cb7 fb7 cc7 fc7 cd7 fd7
    clear p0 p1 p2 p3 s0 s1 s2 s3
    have Hb6 := Lib.hid (Hb5.out.trans (hb6.mono Hb5.out.size))
    have Hc6 := Lib.hid (Hc5.out.trans (hb6.mono Hc5.out.size))
    have HX6 := Lib.hid (ownsRow_below' HX5.out hb6)
    have HR6 := Lib.hid (HR1.out.below hb6)
    have HB76 := Lib.hid (HB7.out.below hb6 hg7)
    have hs6 := hb6.size
    have k6 := Lib.hid (toIntS_any a1 n1 c1 xs w6 h12 (HA.out.below Hb6.out))
    clear hb6
    go_wp2_with fail
    refine (k6.out).mono ?_
    rintro ee w8 ⟨rfl, ho8, hb8⟩
    have Hb8 := Lib.hid (Hb6.out.trans (hb8.mono Hb6.out.size))
    have Hc8 := Lib.hid (Hc6.out.trans (hb8.mono Hc6.out.size))
    have HX8 := Lib.hid (ownsRow_below' HX6.out hb8)
    have HR8 := Lib.hid (HR6.out.below hb8)
    have HB78 := Lib.hid (HB76.out.below hb8 (by omega))
    have hs8 := hb8.size
    have k7 := Lib.hid (eqIntS_any _ _ n1 n1 n1 n1 xs xs w8 (by omega) (Sl.of_own HX8.out) (Sl.of_own ho8))
    rw [eqB_refl] at k7
    clear ho8 hb8
    go_wp2_with fail
    refine (k7.out).mono ?_
    rintro ee w9 ⟨rfl, hb9⟩
    have Hb9 := Lib.hid (Hb8.out.trans (hb9.mono Hb8.out.size))
    have Hc9 := Lib.hid (Hc8.out.trans (hb9.mono Hc8.out.size))
    have HX9 := Lib.hid (ownsRow_below' HX8.out hb9)
    have HR9 := Lib.hid (HR8.out.below hb9)
    have HB79 := Lib.hid (HB78.out.below hb9 (by omega))
    have hs9 := hb9.size
    have k8 := Lib.hid (markIntS_any W5.heap.size _ n1 n1 xs 1 w9 (by omega) (by omega) (by omega) HX9.out)
    have hge : ¬ ((1 : Int) + (n1 : Int) < 0) := by omega
    clear hb9
    go_wp2_with fail
    refine (k8.out).mono ?_
    rintro ee wa ⟨rfl, _, hba, hga⟩
    have hA5 := HbA.out.size
    have Hba := Lib.hid (Hb9.out.trans (hba.mono hA5))
    have Hca := Lib.hid (Hc9.out.trans hba)
    have HRa := Lib.hid (HR9.out.kept hga (fun k hk => by simp [Value.ownBlock] at hk; omega))
    have HB7a := Lib.hid (show Blk4 wa w4.heap.size (.slice z1 m1' u1) (.int .i64 q) (.slice z2 m2' u2) (.slice z3 m3' u3) 36 from (hga.block w4.heap.size (by omega) (fun e => by simp [Value.ownBlock] at e; omega)).trans HB79.out)
    have hsa := hga.size
    have p0 := (HB7a.out).c0
    have p1 := (HB7a.out).c1
    have p2 := (HB7a.out).c2
    have p3 := (HB7a.out).c3
    have s0 := (HB5.out.below Hca.out hG5).c0
    have s1 := (HB5.out.below Hca.out hG5).c1
    have s2 := (HB5.out.below Hca.out hG5).c2
    have s3 := (HB5.out.below Hca.out hG5).c3
    obtain ⟨a4, a5, a6⟩ := HRa.out.parts
    obtain ⟨a7, a8, a9⟩ := (HR0.out.below Hca.out).parts
    have k9 := Lib.hid (HE.out _ _ _ _ _ _ m1' u1 m2' u2 m3' u3 m1' y1 m2' y2 m3' y3 wa (by omega) (by omega) (by omega) a4 a5 a6 a7 a8 a9)
    clear a4 a5 a6 a7 a8 a9 hba hga
    go_wp2_with fail
    refine (k9.out).mono ?_
    rintro ee wb ⟨rfl, hbb⟩
    clear p0 p1 p2 p3 s0 s1 s2 s3
    have Hbb := Lib.hid (Hba.out.trans (hbb.mono Hba.out.size))
    have Hcb := Lib.hid (Hca.out.trans (hbb.mono Hca.out.size))
    have HRb := Lib.hid (HRa.out.below hbb)
    have HB7b := Lib.hid (HB7a.out.below hbb (by omega))
    have hsb := hbb.size
    have k10 := Lib.hid (markBattle_any w3.heap.size z1 z2 z3 m1' u1 m2' u2 m3' u3 _ _ _ q 1 wb (by omega) (by omega) (by omega) (by omega) (by omega) (by omega) HRb.out)
    clear hbb
    have p0 := (HB7b.out).c0
    have p1 := (HB7b.out).c1
    have p2 := (HB7b.out).c2
    have p3 := (HB7b.out).c3
    go_wp2_with fail
    refine (k10.out).mono ?_
    rintro ee wc ⟨rfl, hRc, hbc, hsc, hsame⟩
    clear p0 p1 p2 p3
    have hc3 := Hc3.out.size
    have Hbc := Lib.hid (Hbb.out.trans (hbc.mono (by omega)))
    have Hcc := Lib.hid (Hcb.out.trans (hbc.mono hc3))
    have HRc := Lib.hid hRc
    have hO := HO1.out
    have HB7c := Lib.hid (show Blk4 wc w4.heap.size (.slice z1 m1' u1) (.int .i64 q) (.slice z2 m2' u2) (.slice z3 m3' u3) 36 from (hsame w4.heap.size (by omega) (fun e => by have := hO.1 _ e; omega) (fun e => by have := hO.2.1 _ e; omega) (fun e => by have := hO.2.2 _ e; omega)).trans HB7b.out)
    have k11 := Lib.hid (heldBattle_any w3.heap.size z1 z2 z3 m1' u1 m2' u2 m3' u3 q 1 wc (by omega) (by omega) (by omega) (by omega) (by omega) hRc)
    have hq0 : ¬ ((1 : Int) + (m1' : Int) + (m2' : Int) + (m3' : Int) < 0) := by omega
    have hqq : (((1 : Int) + (m1' : Int) + (m2' : Int) + (m3' : Int)) != ((1 : Int) + (m1' : Int) + (m2' : Int) + (m3' : Int))) = false := by simp
    clear hRc hbc hsame hO
    have p0 := (HB7c.out).c0
    have p1 := (HB7c.out).c1
    have p2 := (HB7c.out).c2
    have p3 := (HB7c.out).c3
    go_wp2_with fail
    refine (k11.out).mono ?_
    rintro ee wd ⟨rfl, hbd⟩
    clear p0 p1 p2 p3
    have Hbd := Lib.hid (Hbc.out.trans (hbd.mono Hbc.out.size))
    have Hcd := Lib.hid (Hcc.out.trans (hbd.mono Hcc.out.size))
    have HRd := Lib.hid (HRc.out.below hbd)
    have HB7d := Lib.hid (HB7c.out.below hbd (by omega))
    have hsd := hbd.size
    have k12 := Lib.hid (toIntS_any a1 n1 c1 xs wd h12 (HA.out.below Hbd.out))
    clear hbd
    go_wp2_with fail
    refine (k12.out).mono ?_
    rintro ee we ⟨rfl, hoe, hbe⟩
    have Hbe := Lib.hid (Hbd.out.trans (hbe.mono Hbd.out.size))
    have Hce := Lib.hid (Hcd.out.trans (hbe.mono Hcd.out.size))
    have HRe := Lib.hid (HRd.out.below hbe)
    have HB7e := Lib.hid (HB7d.out.below hbe (by omega))
    have hse := hbe.size
    have k13 := Lib.hid (HVi.out _ _ n1 we (Sl.of_own hoe))
    clear hoe hbe
    go_wp2_with fail
    refine (k13.out).mono ?_
    rintro ee wf ⟨v2, rfl, hv2, hbf⟩
    obtain ⟨t1, t2, t3, m1'', r1, m2'', r2, m3'', r3, rfl, hR2⟩ := HRo.out _ _ _ hv2
    obtain ⟨e1, e2, e3⟩ := hR2.len
    obtain ⟨f1, f2, f3⟩ := HR0.out.len
    obtain rfl : m1' = m1'' := by omega
    obtain rfl : m2' = m2'' := by omega
    obtain rfl : m3' = m3'' := by omega
    clear e1 e2 e3 f1 f2 f3
    obtain ⟨Wz11, Wa11, Wb11, Wc11, W11, hz11, ha11, hb11', hc11', hd11, ca11, fa11, cb11, fb11, cc11, fc11, cd11, fd11, hB11, hbx11, hsx11⟩ := bt_box wf (.slice t1 m1' r1) (.int .i64 q) (.slice t2 m2' r2) (.slice t3 m3' r3) 36
    clear hsx11
    have hbg := hbf.trans (hbx11.mono hbf.size)
    have Hbg := Lib.hid (Hbe.out.trans (hbg.mono Hbe.out.size))
    have Hcg := Lib.hid (Hce.out.trans (hbg.mono Hce.out.size))
    have HRg := Lib.hid (HRe.out.below hbg)
    have HB7g := Lib.hid (HB7e.out.below hbg (by omega))
    have hsg := hbg.size
    have p0 := (hB11).c0
    have p1 := (hB11).c1
    have p2 := (hB11).c2
    have p3 := (hB11).c3
    have s0 := (HB5.out.below Hcg.out hG5).c0
    have s1 := (HB5.out.below Hcg.out hG5).c1
    have s2 := (HB5.out.below Hcg.out hG5).c2
    have s3 := (HB5.out.below Hcg.out hG5).c3
    obtain ⟨a4, a5, a6⟩ := (hR2.below hbx11).parts
    obtain ⟨a7, a8, a9⟩ := (HR0.out.below Hcg.out).parts
    have k14 := Lib.hid (HE.out _ _ _ _ _ _ m1' r1 m2' r2 m3' r3 m1' y1 m2' y2 m3' y3 W11 (by omega) (by omega) (by omega) a4 a5 a6 a7 a8 a9)
    clear a4 a5 a6 a7 a8 a9 hv2 hR2 hbf hbg hB11 hbx11
    go_wp2_with fail
    refine (k14.out).mono ?_
    rintro ee wh ⟨rfl, hbh⟩
    clear hz11 ha11 hb11' hc11' hd11 ca11 fa11 cb11 fb11 cc11 fc11 cd11 fd11
    clear p0 p1 p2 p3 s0 s1 s2 s3
    have Hbh := Lib.hid (Hbg.out.trans (hbh.mono Hbg.out.size))
    have HRh := Lib.hid (HRg.out.below hbh)
    have HB7h := Lib.hid (HB7g.out.below hbh (by omega))
    have k15 := Lib.hid (heldBattle_any w3.heap.size z1 z2 z3 m1' u1 m2' u2 m3' u3 q 1 wh (by omega) (by omega) (by omega) (by omega) (by omega) HRh.out)
    clear hbh
    have p0 := (HB7h.out).c0
    have p1 := (HB7h.out).c1
    have p2 := (HB7h.out).c2
    have p3 := (HB7h.out).c3
    go_wp2_with fail
    refine (k15.out).mono ?_
    rintro ee wi ⟨rfl, hbi⟩
    have Hbi := Lib.hid (Hbh.out.trans (hbi.mono Hbh.out.size))
    clear p0 p1 p2 p3 hbi
    go_wp2_with fail
    go_ret
    exact ⟨rfl, Hbi.out⟩
  · have hgt : (1048576 : Int) < n1 := by omega
    go_enter Try.func7, Try.ntmps7
    go_wp2_with fail
    go_ret
    exact ⟨rfl, Below.refl _ _⟩

end Go.Proofs.Ytdcgcohfbcdnnaa

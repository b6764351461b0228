/- FnRelPairs: the walk of the law. -/
import Derived.Test.YtagdeifalkenhaaDoorDrawRelP
import Derived.Test.YtagdeifalkenhaaDoorRelPm
import Derived.Test.YtagdeifalkenhaaDoorRelPS
import Derived.Test.YtagdeifalkenhaaDoorRelPJ
import Derived.Test.YtagdeifalkenhaaDoorRelH
import Derived.BigQuiet
namespace Go.Proofs.YtagdeifalkenhaaDoor
set_option maxRecDepth 100000
open Go.RowKit

set_option maxHeartbeats 4000000 in
theorem fnRelPairs_walk (a : Option Addr) (len cap : Nat) (w : World) (h : By w a len cap) (hT : Tab w) :
    Calls Tryd.prog 5 #[.slice a len cap] w fun e w' => e = .returned (.bool true) ∧ Below w.heap.size w w' := by
  have hlm : len ≤ 9223372036854775807 := by have := h.1; have := h.2.1; unfold maxLen at this; omega
  by_cases hbig : 1048576 < len
  · clear h hT
    go_enter Tryd.func5, Tryd.ntmps5
    go_wp2_with fail
    go_ret
    exact ⟨rfl, Below.refl _ _⟩
  have HT := Lib.hid hT
  have htl := hT.lt
  have k0 := Lib.hid (drawRelPairs_any a len cap w h)
  clear h hT
  go_enter Tryd.func5, Tryd.ntmps5
  go_wp2_with fail
  refine (k0.out).mono ?_
  rintro ee w1 ⟨xs, ys, g, n, c, g2, n2, c2, hn, hn2, rfl, ho, ho2, hl, hl2, hb0⟩
  have Hn := Lib.hid hn
  have Hn2 := Lib.hid hn2
  have X_0 := Lib.hid (Sl.of_own ho)
  have Y_0 := Lib.hid (Sl.of_own ho2)
  have Ht0 := Lib.hid hb0
  clear hn hn2 ho ho2 hb0
  have hc := prs_cases xs ys
  have hrl := prs_len xs ys
  obtain ⟨r, hr⟩ : ∃ r, r = prs xs ys := ⟨_, rfl⟩
  rw [← hr] at hc hrl
  have Hr := Lib.hid hr
  clear hr
  have k1 := Lib.hid (impl_RelPairs (some ⟨g, 0, none⟩) n c xs (some ⟨g2, 0, none⟩) n2 c2 ys w1 X_0.out Y_0.out (HT.out.below Ht0.out htl))
  unfold RkPost at k1
  rw [← Hr.out] at k1
  go_wp2_with fail
  refine (k1.out).mono ?_
  rintro ee w101 ⟨aR, cR, rfl, ho, hb1⟩
  have Ht1 := Lib.hid (Ht0.out.trans (hb1.mono (by have h1 := Ht0.out.size; omega)))
  have X_1 := Lib.hid (X_0.out.below hb1)
  have Y_1 := Lib.hid (Y_0.out.below hb1)
  have R_1 := Lib.hid (Sl.of_own ho)
  clear hb1 ho
  have k2 := Lib.hid (spec_RelPairs (some ⟨g, 0, none⟩) n c xs (some ⟨g2, 0, none⟩) n2 c2 ys w101 X_1.out Y_1.out)
  unfold RkPost at k2
  rw [← Hr.out] at k2
  go_wp2_with fail
  refine (k2.out).mono ?_
  rintro ee w102 ⟨aQ, cQ, rfl, ho, hb2⟩
  have Ht2 := Lib.hid (Ht1.out.trans (hb2.mono (by have h1 := Ht1.out.size; omega)))
  have X_2 := Lib.hid (X_1.out.below hb2)
  have Y_2 := Lib.hid (Y_1.out.below hb2)
  have R_2 := Lib.hid (R_1.out.below hb2)
  have Q_2 := Lib.hid (Sl.of_own ho)
  clear hb2 ho
  have k3 := Lib.hid (sameInts_any aR aQ r.length cR r.length cQ r r w102 (by omega) R_2.out Q_2.out)
  rw [eqB_refl] at k3
  go_wp2_with fail
  refine (k3.out).mono ?_
  rintro ee w103 ⟨rfl, hb3⟩
  have Ht3 := Lib.hid (Ht2.out.trans (hb3.mono (by have h1 := Ht2.out.size; omega)))
  have X_3 := Lib.hid (X_2.out.below hb3)
  have Y_3 := Lib.hid (Y_2.out.below hb3)
  have R_3 := Lib.hid (R_2.out.below hb3)
  have Q_3 := Lib.hid (Q_2.out.below hb3)
  clear hb3
  rcases hc with rfl | ⟨hra, hrb, hrc, hab, hwf, hrk⟩
  · skip
    have k4 := Lib.hid (alive_any w103)
    go_wp2_with fail
    refine (k4.out).mono ?_
    rintro ee w104 ⟨rfl, hb4⟩
    have Ht4 := Lib.hid (Ht3.out.trans (hb4.mono (by have h1 := Ht3.out.size; omega)))
    have X_4 := Lib.hid (X_3.out.below hb4)
    have Y_4 := Lib.hid (Y_3.out.below hb4)
    have R_4 := Lib.hid (R_3.out.below hb4)
    clear hb4
    go_wp2_with fail
    go_ret
    exact ⟨rfl, Ht4.out⟩
  · have hrp : 1 ≤ r.length := by rw [hrc]; exact Nat.mul_le_mul hra.1.1 hrb.1.1
    have hnb : 1 ≤ n2 := by have := Hn2.out; have := hrb.1.1; omega
    have hre : ((r.length : Int) == 0) = false := by rw [beq_eq_false_iff_ne]; omega
    have Hrc := Lib.hid hrc
    have Hrk := Lib.hid hrk
    have Hab := Lib.hid hab
    have hna : 1 ≤ n := by have := Hn.out; have := hra.1.1; omega
    clear hrk hra hrb hab hrc
    cases hA : wfB xs with
    | false =>
      rw [hA] at hwf
      have HA := Lib.hid hA
      clear hA
      have Hwf := Lib.hid (show wfB r = false by rw [hwf]; rfl)
      clear hwf
      have k5 := Lib.hid (impl_WellFounded (some ⟨g, 0, none⟩) n c xs w103 X_3.out (HT.out.below Ht3.out htl))
      rw [HA.out] at k5
      go_wp2_with fail
      refine (k5.out).mono ?_
      rintro ee w105 ⟨rfl, hb5⟩
      have Ht5 := Lib.hid (Ht3.out.trans (hb5.mono (by have h1 := Ht3.out.size; omega)))
      have X_5 := Lib.hid (X_3.out.below hb5)
      have Y_5 := Lib.hid (Y_3.out.below hb5)
      have R_5 := Lib.hid (R_3.out.below hb5)
      clear hb5
      have k6 := Lib.hid (impl_WellFounded aR r.length cR r w105 R_5.out (HT.out.below Ht5.out htl))
      rw [Hwf.out] at k6
      go_wp2_with fail
      refine (k6.out).mono ?_
      rintro ee w106 ⟨rfl, hb6⟩
      have Ht6 := Lib.hid (Ht5.out.trans (hb6.mono (by have h1 := Ht5.out.size; omega)))
      have X_6 := Lib.hid (X_5.out.below hb6)
      have Y_6 := Lib.hid (Y_5.out.below hb6)
      have R_6 := Lib.hid (R_5.out.below hb6)
      clear hb6
      go_wp2_with fail
      go_ret
      exact ⟨rfl, Ht6.out⟩
    | true =>
      rw [hA] at hwf
      have HA := Lib.hid hA
      clear hA
      cases hB : wfB ys with
      | false =>
        rw [hB] at hwf
        have HB := Lib.hid hB
        have Hwf := Lib.hid (show wfB r = false by rw [hwf]; rfl)
        clear hB hwf
        have k7 := Lib.hid (impl_WellFounded (some ⟨g, 0, none⟩) n c xs w103 X_3.out (HT.out.below Ht3.out htl))
        rw [HA.out] at k7
        go_wp2_with fail
        refine (k7.out).mono ?_
        rintro ee w107 ⟨rfl, hb7⟩
        have Ht7 := Lib.hid (Ht3.out.trans (hb7.mono (by have h1 := Ht3.out.size; omega)))
        have X_7 := Lib.hid (X_3.out.below hb7)
        have Y_7 := Lib.hid (Y_3.out.below hb7)
        have R_7 := Lib.hid (R_3.out.below hb7)
        clear hb7
        have k8 := Lib.hid (impl_WellFounded (some ⟨g2, 0, none⟩) n2 c2 ys w107 Y_7.out (HT.out.below Ht7.out htl))
        rw [HB.out] at k8
        go_wp2_with fail
        refine (k8.out).mono ?_
        rintro ee w108 ⟨rfl, hb8⟩
        have Ht8 := Lib.hid (Ht7.out.trans (hb8.mono (by have h1 := Ht7.out.size; omega)))
        have X_8 := Lib.hid (X_7.out.below hb8)
        have Y_8 := Lib.hid (Y_7.out.below hb8)
        have R_8 := Lib.hid (R_7.out.below hb8)
        clear hb8
        have k9 := Lib.hid (impl_WellFounded aR r.length cR r w108 R_8.out (HT.out.below Ht8.out htl))
        rw [Hwf.out] at k9
        go_wp2_with fail
        refine (k9.out).mono ?_
        rintro ee w109 ⟨rfl, hb9⟩
        have Ht9 := Lib.hid (Ht8.out.trans (hb9.mono (by have h1 := Ht8.out.size; omega)))
        have X_9 := Lib.hid (X_8.out.below hb9)
        have Y_9 := Lib.hid (Y_8.out.below hb9)
        have R_9 := Lib.hid (R_8.out.below hb9)
        clear hb9
        go_wp2_with fail
        go_ret
        exact ⟨rfl, Ht9.out⟩
      | true =>
        rw [hB] at hwf
        have HB := Lib.hid hB
        have Hwf := Lib.hid (show wfB r = true by rw [hwf]; rfl)
        clear hB hwf
        have k10 := Lib.hid (impl_WellFounded (some ⟨g, 0, none⟩) n c xs w103 X_3.out (HT.out.below Ht3.out htl))
        rw [HA.out] at k10
        go_wp2_with fail
        refine (k10.out).mono ?_
        rintro ee w110 ⟨rfl, hb10⟩
        have Ht10 := Lib.hid (Ht3.out.trans (hb10.mono (by have h1 := Ht3.out.size; omega)))
        have X_10 := Lib.hid (X_3.out.below hb10)
        have Y_10 := Lib.hid (Y_3.out.below hb10)
        have R_10 := Lib.hid (R_3.out.below hb10)
        clear hb10
        have k11 := Lib.hid (impl_WellFounded (some ⟨g2, 0, none⟩) n2 c2 ys w110 Y_10.out (HT.out.below Ht10.out htl))
        rw [HB.out] at k11
        go_wp2_with fail
        refine (k11.out).mono ?_
        rintro ee w111 ⟨rfl, hb11⟩
        have Ht11 := Lib.hid (Ht10.out.trans (hb11.mono (by have h1 := Ht10.out.size; omega)))
        have X_11 := Lib.hid (X_10.out.below hb11)
        have Y_11 := Lib.hid (Y_10.out.below hb11)
        have R_11 := Lib.hid (R_10.out.below hb11)
        clear hb11
        have k12 := Lib.hid (impl_WellFounded aR r.length cR r w111 R_11.out (HT.out.below Ht11.out htl))
        rw [Hwf.out] at k12
        go_wp2_with fail
        refine (k12.out).mono ?_
        rintro ee w112 ⟨rfl, hb12⟩
        have Ht12 := Lib.hid (Ht11.out.trans (hb12.mono (by have h1 := Ht11.out.size; omega)))
        have X_12 := Lib.hid (X_11.out.below hb12)
        have Y_12 := Lib.hid (Y_11.out.below hb12)
        have R_12 := Lib.hid (R_11.out.below hb12)
        clear hb12
        obtain ⟨l1, l2, l3, hx, hy, hz⟩ := Hrk.out HA.out HB.out
        obtain ⟨p, hp⟩ : ∃ p, p = ranks xs := ⟨_, rfl⟩
        obtain ⟨q, hq⟩ : ∃ q, q = ranks ys := ⟨_, rfl⟩
        obtain ⟨z, hzz⟩ : ∃ z, z = ranks r := ⟨_, rfl⟩
        rw [← Hn.out] at l1 l3 hx hz
        rw [← Hn2.out] at l2 l3 hy hz
        rw [← hzz] at l3 hz
        rw [← hp] at l1 hx hz
        rw [← hq] at l2 hy hz
        have Hp := Lib.hid hp
        have Hq := Lib.hid hq
        have Hz := Lib.hid hzz
        have L1 := Lib.hid l1
        have L2 := Lib.hid l2
        have L3 := Lib.hid l3
        have HX := Lib.hid hx
        have HY := Lib.hid hy
        have HZ := Lib.hid hz
        clear hp hq hzz l1 l2 l3 hx hy hz
        have k13 := Lib.hid (impl_RanksOf (some ⟨g, 0, none⟩) n c xs w112 X_12.out (HT.out.below Ht12.out htl))
        unfold RkPost at k13
        rw [← Hp.out] at k13
        go_wp2_with fail
        refine (k13.out).mono ?_
        rintro ee w113 ⟨aP, cP, rfl, ho, hb13⟩
        have Ht13 := Lib.hid (Ht12.out.trans (hb13.mono (by have h1 := Ht12.out.size; omega)))
        have X_13 := Lib.hid (X_12.out.below hb13)
        have Y_13 := Lib.hid (Y_12.out.below hb13)
        have R_13 := Lib.hid (R_12.out.below hb13)
        have P_13 := Lib.hid (Sl.of_own ho)
        clear hb13 ho
        have k14 := Lib.hid (impl_RanksOf (some ⟨g2, 0, none⟩) n2 c2 ys w113 Y_13.out (HT.out.below Ht13.out htl))
        unfold RkPost at k14
        rw [← Hq.out] at k14
        go_wp2_with fail
        refine (k14.out).mono ?_
        rintro ee w114 ⟨aS, cS, rfl, ho, hb14⟩
        have Ht14 := Lib.hid (Ht13.out.trans (hb14.mono (by have h1 := Ht13.out.size; omega)))
        have X_14 := Lib.hid (X_13.out.below hb14)
        have Y_14 := Lib.hid (Y_13.out.below hb14)
        have R_14 := Lib.hid (R_13.out.below hb14)
        have P_14 := Lib.hid (P_13.out.below hb14)
        have S_14 := Lib.hid (Sl.of_own ho)
        clear hb14 ho
        have k15 := Lib.hid (impl_RanksOf aR r.length cR r w114 R_14.out (HT.out.below Ht14.out htl))
        unfold RkPost at k15
        rw [← Hz.out] at k15
        go_wp2_with fail
        refine (k15.out).mono ?_
        rintro ee w115 ⟨aZ, cZ, rfl, ho, hb15⟩
        have Ht15 := Lib.hid (Ht14.out.trans (hb15.mono (by have h1 := Ht14.out.size; omega)))
        have X_15 := Lib.hid (X_14.out.below hb15)
        have Y_15 := Lib.hid (Y_14.out.below hb15)
        have R_15 := Lib.hid (R_14.out.below hb15)
        have P_15 := Lib.hid (P_14.out.below hb15)
        have S_15 := Lib.hid (S_14.out.below hb15)
        have Z_15 := Lib.hid (Sl.of_own ho)
        clear hb15 ho
        have hM12 : n * n2 ≤ 12 := by rw [Hn.out, Hn2.out]; exact Hab.out
        obtain ⟨M, hM⟩ : ∃ M, M = n * n2 := ⟨_, rfl⟩
        have hzl : z.length = M := by rw [hM]; exact L3.out
        have hwm : IntKind.i64.wrap ((n : Int) * (n2 : Int)) = (M : Int) := by rw [← Int.natCast_mul, ← hM]; exact wrap_nat _ (by omega)
        have HM := Lib.hid hM
        rw [← hM] at hM12
        clear hM
        obtain ⟨f, hf⟩ : ∃ f : Nat → Int, f = fun k => q.getD k 0 := ⟨_, rfl⟩
        have Hfz := Lib.hid HZ.out
        have Hf := Lib.hid (show ∀ k, f k = q.getD k 0 from fun k => congrFun hf k)
        have HFZ : Hid (∀ c, c < M → z.getD c 0 = p.getD (c / n2) 0 * hi f n2 + q.getD (c % n2) 0) := Lib.hid (by rw [HM.out, hf]; exact Hfz.out)
        have HFB : Hid (∀ k, k < n2 → 0 ≤ f k ∧ f k ≤ 12) := Lib.hid (fun k hk => by rw [Hf.out]; exact HY.out k hk)
        clear hf Hfz
        obtain ⟨bp, op, rfl, hatP⟩ := P_15.out.2.2.2 (by have := L1.out; omega)
        obtain ⟨bs, os, rfl, hatS⟩ := S_15.out.2.2.2 (by have := L2.out; omega)
        obtain ⟨bz, oz, rfl, hatZ⟩ := Z_15.out.2.2.2 (by rw [hzl, HM.out]; exact Nat.mul_pos hna hnb)
        have hbp := hatP.lt (by intro h9; have := L1.out; rw [h9] at this; simp at this; omega)
        have hbs := hatS.lt (by intro h9; have := L2.out; rw [h9] at this; simp at this; omega)
        have hbz := hatZ.lt (by intro h9; have h8 := hrp; have h7 := Hrc.out; rw [h9] at hzl; simp at hzl; rw [h7, ← Hn.out, ← Hn2.out, ← HM.out, ← hzl] at h8; omega)
        have HP := Lib.hid hatP
        have HS := Lib.hid hatS
        have HZz := Lib.hid hatZ
        rw [L1.out, L2.out, hzl]
        have Hzl := Lib.hid hzl
        clear hatP hatS hatZ hzl
        obtain ⟨W, hW⟩ : ∃ W, W = w115 := ⟨_, rfl⟩
        rw [← hW] at HP HS HZz hbp hbs hbz ⊢
        have HW := Lib.hid hW
        clear hW
        go_wp2_with fail
        go_loopw [10, 11] (fun v10 v11 wr => ∃ k : Nat, k ≤ n2 ∧ v11 = .int .i64 k ∧ v10 = .int .i64 (hi f k) ∧ W = wr) (fun _ v11 _ => n2 - (intOf v11).toNat)
        case atStart => exact ⟨0, Nat.zero_le _, rfl, rfl, rfl⟩
        case round =>
          obtain ⟨k, hk, rfl, rfl, rfl⟩ := hrel
          by_cases hkn : k < n2
          · have hkn2 : (k : Int) < n2 := by omega
            obtain ⟨x, hx⟩ : ∃ x, x = f k := ⟨_, rfl⟩
            have y0 : W.cell? ⟨bs, os + k, none⟩ = some (.int .i64 x) := by rw [HS.out k (by rw [L2.out]; exact hkn), hx, Hf.out k]
            have hfk := HFB.out k hkn
            rw [← hx] at hfk
            have hws1 : wrap64 (x + 1) = x + 1 := IntWalk.wrap64_in _ (by omega)
            have hws2 : IntKind.i64.wrap (x + 1) = x + 1 := IntWalk.i64_in _ (by omega)
            obtain ⟨v, hv⟩ : ∃ v, v = hi f k := ⟨_, rfl⟩
            have hnx : hi f (k + 1) = max v (x + 1) := by rw [hv, hx]; rfl
            rw [← hv]
            clear hv hx
            by_cases hm : v < x + 1
            · have Hmx := Lib.hid (show hi f (k + 1) = x + 1 by rw [hnx]; omega)
              clear hnx
              go_wp2_with fail
              go_roundw
              case rel => exact ⟨k + 1, by omega, by go_num, by rw [Hmx.out]; first | rfl | go_num, trivial⟩
              case measure => exact idx_measure hkn
            · have Hmx := Lib.hid (show hi f (k + 1) = v by rw [hnx]; omega)
              clear hnx
              go_wp2_with fail
              go_roundw
              case rel => exact ⟨k + 1, by omega, by go_num, by first | (rw [Hmx.out]; done) | rw [Hmx.out, Int.max_eq_left (by omega)], trivial⟩
              case measure => exact idx_measure hkn
          · obtain rfl : n2 = k := by omega
            have hkn2 : ¬ (n2 : Int) < n2 := by omega
            have hH13 : 0 ≤ hi f n2 ∧ hi f n2 ≤ 13 := ⟨hi_pos f n2, hi_le f 12 n2 (fun k hk => (HFB.out k hk).2) (by omega)⟩
            obtain ⟨H, hH⟩ : ∃ H, H = hi f n2 := ⟨_, rfl⟩
            rw [← hH] at hH13 HFZ ⊢
            clear hH
            go_wp2_with fail
            go_loopw [12] (fun v12 wr => ∃ c : Nat, c ≤ M ∧ v12 = .int .i64 c ∧ Below W.heap.size W wr) (fun v12 _ => M - (intOf v12).toNat)
            case atStart => exact ⟨0, Nat.zero_le _, rfl, Below.refl _ _⟩
            case round =>
              obtain ⟨c, hc, rfl, hbr⟩ := hrel
              obtain ⟨wB, rfl⟩ : ∃ wB : World, wB = wr := ⟨_, rfl⟩
              have Hbr := Lib.hid hbr
              by_cases hcm : c < M
              · have hcm2 : (c : Int) < M := by omega
                obtain ⟨hci, hck⟩ := pair_parts (n := n) hnb (show c < n * n2 by rw [← HM.out]; exact hcm)
                have y0 : wB.cell? ⟨bz, oz + c, none⟩ = some (.int .i64 (z.getD c 0)) := (hbr.cell (p := ⟨bz, oz + c, none⟩) hbz).trans (HZz.out c (by rw [Hzl.out]; exact hcm))
                have y1 : wB.cell? ⟨bp, op + c / n2, none⟩ = some (.int .i64 (p.getD (c / n2) 0)) := (hbr.cell (p := ⟨bp, op + c / n2, none⟩) hbp).trans (HP.out _ (by rw [L1.out]; exact hci))
                have y2 : wB.cell? ⟨bs, os + c % n2, none⟩ = some (.int .i64 (q.getD (c % n2) 0)) := (hbr.cell (p := ⟨bs, os + c % n2, none⟩) hbs).trans (HS.out _ (by rw [L2.out]; exact hck))
                have hzc := HFZ.out c hcm
                have hx := HX.out _ hci
                have hy := HY.out _ hck
                obtain ⟨xv, hxv⟩ : ∃ xv, xv = p.getD (c / n2) 0 := ⟨_, rfl⟩
                obtain ⟨yv, hyv⟩ : ∃ yv, yv = q.getD (c % n2) 0 := ⟨_, rfl⟩
                obtain ⟨zv, hzv⟩ : ∃ zv, zv = z.getD c 0 := ⟨_, rfl⟩
                rw [← hxv] at y1 hzc hx
                rw [← hyv] at y2 hzc hy
                rw [← hzv] at y0 hzc
                have hqd : (c : Int).tdiv (n2 : Int) = ((c / n2 : Nat) : Int) := by rw [Int.tdiv_eq_ediv_of_nonneg (by omega)]; simp
                have hqm : (c : Int).tmod (n2 : Int) = ((c % n2 : Nat) : Int) := by rw [Int.tmod_eq_emod_of_nonneg (by omega)]; simp
                have hmul0 : 0 ≤ xv * H := Int.mul_nonneg hx.1 hH13.1
                have hmul1 : xv * H ≤ 12 * 13 := Int.mul_le_mul hx.2 hH13.2 hH13.1 (by omega)
                have hwp1 : wrap64 (xv * H) = xv * H := IntWalk.wrap64_in _ (by omega)
                have hwp2 : IntKind.i64.wrap (xv * H) = xv * H := IntWalk.i64_in _ (by omega)
                have hws1 : wrap64 (xv * H + yv) = zv := by rw [hzc]; exact IntWalk.wrap64_in _ (by omega)
                have hws2 : IntKind.i64.wrap (xv * H + yv) = zv := by rw [hzc]; exact IntWalk.i64_in _ (by omega)
                obtain ⟨ci, hcid⟩ : ∃ ci, ci = c / n2 := ⟨_, rfl⟩
                obtain ⟨ck, hckd⟩ : ∃ ck, ck = c % n2 := ⟨_, rfl⟩
                rw [← hcid] at y1 hqd hci
                rw [← hckd] at y2 hqm hck
                have hn20 : ¬ n2 = 0 := by omega
                have hwci : IntKind.i64.wrap (ci : Int) = (ci : Int) := wrap_nat _ (by omega)
                have hwck : IntKind.i64.wrap (ck : Int) = (ck : Int) := wrap_nat _ (by omega)
                have hci2 : (ci : Int) < n := by omega
                have hck2 : (ck : Int) < n2 := by omega
                have hne : (zv != zv) = false := by simp
                clear hxv hyv hzv hzc hx hy hmul0 hmul1 hcid hckd hbr
                go_wp2_with fail
                go_quiet (fail)
                go_wp2_with fail
                go_roundw
                case rel => exact ⟨c + 1, by omega, by go_num, Hbr.out.trans (Joins.below_draws _ _ _)⟩
                case measure => exact idx_measure hcm
              · have hcm2 : ¬ (c : Int) < M := by omega
                have h15 : Below w.heap.size w W := by rw [HW.out]; exact Ht15.out
                have Hfin := Lib.hid (h15.trans (hbr.mono h15.size))
                clear hbr h15
                go_wp2_with fail
                go_ret
                exact ⟨rfl, Hfin.out⟩

end Go.Proofs.YtagdeifalkenhaaDoor

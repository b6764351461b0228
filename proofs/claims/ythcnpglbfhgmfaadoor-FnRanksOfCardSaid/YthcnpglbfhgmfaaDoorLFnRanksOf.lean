/- FnRanksOf: the walk of the law. -/
import Derived.Test.YthcnpglbfhgmfaaDoorDrawRelA
import Derived.Test.YthcnpglbfhgmfaaDoorRelR
import Derived.Test.YthcnpglbfhgmfaaDoorRelE
import Derived.Test.YthcnpglbfhgmfaaDoorRelG
namespace Go.Proofs.YthcnpglbfhgmfaaDoor
set_option maxRecDepth 100000
open Go.RowKit

set_option maxHeartbeats 4000000 in
theorem fnRanksOf_walk (a : Option Addr) (len cap : Nat) (w : World) (h : By w a len cap) (hT : Tab w) :
    Calls Tryd.prog 3 #[.slice a len cap] w fun e w' => e = .returned (.bool true) ∧ Below w.heap.size w w' := by
  have hlm : len ≤ 9223372036854775807 := by have := h.1; have := h.2.1; unfold maxLen at this; omega
  by_cases hbig : 1048576 < len
  · clear h hT
    go_enter Tryd.func3, Tryd.ntmps3
    go_wp2_with fail
    go_ret
    exact ⟨rfl, Below.refl _ _⟩
  have HT := Lib.hid hT
  have htl := hT.lt
  have k0 := Lib.hid (drawRanksOf_any a len cap w h)
  clear h hT
  go_enter Tryd.func3, Tryd.ntmps3
  go_wp2_with fail
  refine (k0.out).mono ?_
  rintro ee w1 ⟨xs, g, n, c, hn, rfl, ho, hl, hb0⟩
  have Hn := Lib.hid hn
  clear hn
  have X_0 := Lib.hid (Sl.of_own ho)
  have Ht0 := Lib.hid hb0
  have hws := hb0.size
  clear ho hb0
  have hrl := ranks_len xs
  have hge : RelOk xs → (ranks xs).length = n := fun h => by rw [Hn.out]; exact (ranks_spec h).1
  have hno : ¬ RelOk xs → ranks xs = [] := fun h => ranks_no h
  have hlo : RelOk xs → ∀ p, p < n → ∀ k, (ranks xs).getD p 0 = k → k < 0 → k = -1 ∧ 0 < walkV xs p 99 := fun h p hp k hk h0 => rank_low h (by have := Hn.out; omega) hk h0
  have hhi : RelOk xs → ∀ p, p < n → ∀ k, (ranks xs).getD p 0 = k → 0 ≤ k → k ≤ 11 ∧ 0 < walkV xs p k ∧ walkV xs p (k + 1) = 0 := fun h p hp k hk h0 => rank_high h (by have := Hn.out; omega) hk h0
  obtain ⟨r, hr⟩ : ∃ r, r = ranks xs := ⟨_, rfl⟩
  rw [← hr] at hrl hge hno hlo hhi
  have Hr := Lib.hid hr.symm
  have Hge := Lib.hid hge
  have Hno := Lib.hid hno
  have Hlo := Lib.hid hlo
  have Hhi := Lib.hid hhi
  clear hr hge hno hlo hhi
  have k1 := Lib.hid (impl_RanksOf (some ⟨g, 0, none⟩) n c xs w1 X_0.out (HT.out.below Ht0.out htl))
  unfold RkPost at k1
  rw [Hr.out] at k1
  go_wp2_with fail
  refine (k1.out).mono ?_
  rintro ee w101 ⟨aR, cR, rfl, ho, hb1⟩
  have Ht1 := Lib.hid (Ht0.out.trans (hb1.mono (by have h1 := Ht0.out.size; omega)))
  have X_1 := Lib.hid (X_0.out.below hb1)
  have R_1 := Lib.hid (Sl.of_own ho)
  clear hb1 ho
  have k2 := Lib.hid (spec_RanksOf (some ⟨g, 0, none⟩) n c xs w101 X_1.out)
  unfold RkPost at k2
  rw [Hr.out] at k2
  go_wp2_with fail
  refine (k2.out).mono ?_
  rintro ee w102 ⟨aQ, cQ, rfl, ho, hb2⟩
  have Ht2 := Lib.hid (Ht1.out.trans (hb2.mono (by have h1 := Ht1.out.size; omega)))
  have X_2 := Lib.hid (X_1.out.below hb2)
  have R_2 := Lib.hid (R_1.out.below hb2)
  have Q_2 := Lib.hid (Sl.of_own ho)
  clear hb2 ho
  have k3 := Lib.hid (sameInts_any aR aQ r.length cR r.length cQ r r w102 (by omega) R_2.out Q_2.out)
  rw [eqB_refl] at k3
  go_wp2_with fail
  refine (k3.out).mono ?_
  rintro ee w103 ⟨rfl, hb3⟩
  have Ht3 := Lib.hid (Ht2.out.trans (hb3.mono (by have h1 := Ht2.out.size; omega)))
  have X_3 := Lib.hid (X_2.out.below hb3)
  have R_3 := Lib.hid (R_2.out.below hb3)
  clear hb3
  have k4 := Lib.hid (spec_RelValid (some ⟨g, 0, none⟩) n c xs w103 X_3.out)
  rcases rel_tf xs with hv | hv
  · have hR := relB_true.1 hv
    rw [hv] at k4
    have Hlo' := Lib.hid (Hlo.out hR)
    have Hhi' := Lib.hid (Hhi.out hR)
    have hrn := Hge.out hR
    clear hv hR
    go_wp2_with fail
    refine (k4.out).mono ?_
    rintro ee w104 ⟨rfl, hb4⟩
    have Ht4 := Lib.hid (Ht3.out.trans (hb4.mono (by have h1 := Ht3.out.size; omega)))
    have X_4 := Lib.hid (X_3.out.below hb4)
    have R_4 := Lib.hid (R_3.out.below hb4)
    clear hb4
    rw [hrn] at R_4
    have Hrn := Lib.hid hrn
    have hen : ((r.length : Int) == (n : Int)) = true := by rw [hrn]; simp
    have hcn : n ≤ 1000 := by omega
    go_wp2_with fail
    go_loopw [5] (fun v5 wr => ∃ k : Nat, k ≤ n ∧ v5 = .int .i64 k ∧ Below w104.heap.size w104 wr) (fun v5 _ => n - (intOf v5).toNat)
    case atStart => exact ⟨0, Nat.zero_le _, rfl, Below.refl _ _⟩
    case round =>
      obtain ⟨k, hkn, rfl, hb⟩ := hrel
      obtain ⟨wA, rfl⟩ : ∃ wA : World, wA = wr := ⟨_, rfl⟩
      have Hb := Lib.hid hb
      have Ht5 := Lib.hid (Ht4.out.trans (hb.mono (by have h1 := Ht4.out.size; omega)))
      have X_5 := Lib.hid (X_4.out.below hb)
      have R_5 := Lib.hid (R_4.out.below hb)
      have hs5 := Ht5.out.size
      clear hb
      by_cases hlt : k < n
      · obtain ⟨bR, oR, rfl, hat⟩ := R_5.out.2.2.2 (by omega)
        obtain ⟨f, hf⟩ : ∃ f, f = r.getD k 0 := ⟨_, rfl⟩
        have y0 : wA.cell? ⟨bR, oR + k, none⟩ = some (.int .i64 f) := by rw [hf]; exact hat k (by rw [Hrn.out]; exact hlt)
        have hltR : (k : Int) < (r.length : Int) := by rw [Hrn.out]; omega
        clear hat
        by_cases h0 : f < 0
        · obtain ⟨hf1, hw⟩ := Hlo'.out k hlt f hf.symm h0
          subst hf1
          have k5 := Lib.hid (impl_WalksTo (some ⟨g, 0, none⟩) n c xs k 99 wA X_5.out (HT.out.below Ht5.out htl))
          obtain ⟨v, hv⟩ : ∃ v, v = walkV xs k 99 := ⟨_, rfl⟩
          rw [← hv] at k5 hw
          have hw' : ¬ v ≤ 0 := by omega
          clear hv hf
          go_wp2_with fail
          refine (k5.out).mono ?_
          rintro ee w6 ⟨rfl, hb6⟩
          have Hb6 := Lib.hid (Hb.out.trans (hb6.mono (by have h1 := Hb.out.size; omega)))
          have y1 := (hb6.cell (p := ⟨bR, oR + k, none⟩) (by exact World.block_lt_of_cell? wA _ y0)).trans y0
          clear hb6
          go_wp2_with fail
          go_roundw
          case rel => exact ⟨k + 1, by omega, by go_num, Hb6.out⟩
          case measure => exact idx_measure hlt
        · have h0' : 0 ≤ f := by omega
          obtain ⟨hf11, hw1, hw2⟩ := Hhi'.out k hlt f hf.symm h0'
          have k5 := Lib.hid (impl_WalksTo (some ⟨g, 0, none⟩) n c xs k f wA X_5.out (HT.out.below Ht5.out htl))
          have k6 := Lib.hid (fun wx (hx : Below wA.heap.size wA wx) => impl_WalksTo (some ⟨g, 0, none⟩) n c xs k (f + 1) wx (X_5.out.below hx) ((HT.out.below Ht5.out htl).below hx (by have := hs5; omega)))
          rw [hw2] at k6
          obtain ⟨v, hv⟩ : ∃ v, v = walkV xs k f := ⟨_, rfl⟩
          rw [← hv] at k5 hw1
          have hw' : ¬ v ≤ 0 := by omega
          clear hv hf hw2
          go_wp2_with fail
          refine (k5.out).mono ?_
          rintro ee w6 ⟨rfl, hb6⟩
          have Hb6 := Lib.hid (Hb.out.trans (hb6.mono (by have h1 := Hb.out.size; omega)))
          have y1 := (hb6.cell (p := ⟨bR, oR + k, none⟩) (by exact World.block_lt_of_cell? wA _ y0)).trans y0
          have k7 := Lib.hid (k6.out w6 hb6)
          clear hb6
          go_wp2_with fail
          refine (k7.out).mono ?_
          rintro ee w7 ⟨rfl, hb7⟩
          have Hb7 := Lib.hid (Hb6.out.trans (hb7.mono (by have h1 := Hb6.out.size; omega)))
          clear hb7
          go_wp2_with fail
          go_roundw
          case rel => exact ⟨k + 1, by omega, by go_num, Hb7.out⟩
          case measure => exact idx_measure hlt
      · obtain rfl : k = n := by omega
        go_wp2_with fail
        go_ret
        exact ⟨rfl, Ht5.out⟩
  · have hR : ¬ RelOk xs := relB_false hv
    rw [hv] at k4
    have hnil := Hno.out hR
    clear hv hR Hlo Hhi Hge Hno
    subst hnil
    go_wp2_with fail
    refine (k4.out).mono ?_
    rintro ee w104 ⟨rfl, hb4⟩
    have Ht4 := Lib.hid (Ht3.out.trans (hb4.mono (by have h1 := Ht3.out.size; omega)))
    clear hb4
    have k5 := Lib.hid (alive_any w104)
    go_wp2_with fail
    refine (k5.out).mono ?_
    rintro ee w105 ⟨rfl, hb5⟩
    have Ht5 := Lib.hid (Ht4.out.trans (hb5.mono (by have h1 := Ht4.out.size; omega)))
    clear hb5
    go_wp2_with fail
    go_ret
    exact ⟨rfl, Ht5.out⟩

end Go.Proofs.YthcnpglbfhgmfaaDoor
